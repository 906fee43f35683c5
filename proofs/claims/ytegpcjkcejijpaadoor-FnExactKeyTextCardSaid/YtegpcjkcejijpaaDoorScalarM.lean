/- A value on one line, plain. -/
import Derived.Test.YtegpcjkcejijpaaDoorPlainM
import Derived.Test.YtegpcjkcejijpaaDoorBareM
import Derived.Test.YtegpcjkcejijpaaDoorWholeM
import Derived.Test.YtegpcjkcejijpaaDoorTreeM
import Derived.Test.YtegpcjkcejijpaaDoorQuoteM
namespace Go.Proofs.YtegpcjkcejijpaaDoor.line
open Go.ChangeShapes Go.WideShapes Go.ChangeAt Go.RowKit
set_option linter.unusedVariables false

/-- A tree of one value. -/
def leafT (k : Int) (f : Bool) (n : Int) (s : ByteArray) : tree.T := .mk k f n s [] []
/-- The value of a text by its words; none: it is no word. -/
def wordT (l : List UInt8) : Option tree.T :=
  if l = [91, 93] then some (leafT 5 false 0 ⟨#[]⟩)
  else if l = [123, 125] then some (leafT 6 false 0 ⟨#[]⟩)
  else if l = [110, 117, 108, 108] ∨ l = [126] then some (leafT 1 false 0 ⟨#[]⟩)
  else if l = [116, 114, 117, 101] then some (leafT 2 true 0 ⟨#[]⟩)
  else if l = [102, 97, 108, 115, 101] then some (leafT 2 false 0 ⟨#[]⟩)
  else none
/-- A text that is no word. -/
noncomputable def valT (s : ByteArray) : Option tree.T :=
  if 0 < s.size ∧ at_ s 0 = 34 then
    if (readq.readF s 0).2 = (s.size : Int) ∧ (readq.readF s 0).1.size ≤ 400 then some (leafT 4 false 0 (readq.readF s 0).1) else none
  else if (whole.wholeF s 0).2 = (s.size : Int) ∧ 0 < (whole.wholeF s 0).2 then some (leafT 3 false (whole.wholeF s 0).1 ⟨#[]⟩)
  else if plainF s = true then some (leafT 4 false 0 s)
  else none
noncomputable def scalarF (s : ByteArray) : Option tree.T := (wordT s.data.toList).or (valT s)
/-- A key or a text as it is told. -/
noncomputable def keyT (s : ByteArray) : ByteArray := if plainF s = true then s else quote.quotedF s
noncomputable def inlineF (s : ByteArray) : Option tree.T := scalarF (trimL (bare s))
end Go.Proofs.YtegpcjkcejijpaaDoor.line
