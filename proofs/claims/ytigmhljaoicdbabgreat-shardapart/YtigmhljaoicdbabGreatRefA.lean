/- What the document's Plus and Bucket answer: the plain ones; the world stays. Conditions: all numbers are int64's. -/
import Derived.Test.YtigmhljaoicdbabGreatCalls
namespace Go.Proofs.YtigmhljaoicdbabGreat
open Go.RowKit

end Go.Proofs.YtigmhljaoicdbabGreat
