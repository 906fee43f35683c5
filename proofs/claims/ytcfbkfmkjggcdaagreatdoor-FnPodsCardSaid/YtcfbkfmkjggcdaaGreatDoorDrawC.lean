/- Drawn pods and hosts, their lists turned round: how heavy; what such a draw hands back. -/
import Derived.Test.YtcfbkfmkjggcdaaGreatDoorGA5
import Derived.Test.YtcfbkfmkjggcdaaGreatDoorDrawHa
import Derived.Test.YtcfbkfmkjggcdaaGreatDoorDrawPa
namespace Go.Proofs.YtcfbkfmkjggcdaaGreatDoor.draw
open Go Go.RowKit ty lab taint need rot
set_option linter.unusedVariables false
theorem sV {α : Type} {f : α → Nat} {c : Nat} {l : List α} (h : ∀ x ∈ l,f x ≤ c) : bH f l ≤ c * l.length:=by
  induction l with
  | nil=>exact Nat.zero_le _
  | cons a r ih=>
    have h1:=h a List.mem_cons_self;have h2:=ih (fun x hx=>h x (List.mem_cons_of_mem _ hx));rw [List.length_cons,Nat.mul_add,Nat.mul_one];show f a + bH f r ≤ _;omega
def Cv (x : Host) : Prop:=x.name.size ≤ 31 ∧ (x.labels.length ≤ 12 ∧ Tiny 31 x.labels) ∧ (x.bP.length ≤ 42 ∧ ∀ y ∈ x.bP,iC 5 y)
theorem NM {x : Host} (h : mo x) : Cv x:=⟨h.1,h.2.1,by have:=h.2.2.1; omega,h.2.2.2⟩
theorem Ir {x : Host} (h : Cv x) : x.wt ≤ 1048576:=by
  have h1:=sV (f:=Label.wt) (c:=62) (l:=x.labels) fun y hy=>by have:=h.2.1.2 y hy; unfold Label.wt; omega
  have h2:=sV (f:=av.wt) (c:=10) (l:=x.bP) fun y hy=>by have:=(h.2.2.2 y hy).key; have:=(h.2.2.2 y hy).value; unfold av.wt; omega
  have h3:=h.1;have h4:=h.2.1.1;have h5:=h.2.2.1;unfold Host.wt;omega
theorem KM {x : Pod} (h : lW x) : x.wt ≤ 1048576:=by
  have h1:=sV (f:=Label.wt) (c:=62) (l:=x.labels) fun y hy=>by have:=h.2.1.2 y hy; unfold Label.wt; omega
  have h2:=sV (f:=aj.wt) (c:=10) (l:=x.tolerances) fun y hy=>by have:=(h.2.2.2.2 y hy).key; have:=(h.2.2.2.2 y hy).value; unfold aj.wt; omega
  have h3:=sV (f:=Need.wt) (c:=1000) (l:=x.needs) fun y hy=>by
    have hy':=h.2.2.1.2 y hy;have h6:=sV (f:=Str.wt) (c:=5) (l:=y.values) fun s hs=>hy'.vs s hs;have:=hy'.key;have:=hy'.n;unfold Need.wt;omega
  have h4:=h.1;have h5:=h.2.1.1;have h6:=h.2.2.1.1;have h7:=h.2.2.2.1;unfold Pod.wt;omega
def rG {α : Type} (row : α → List C) (P : α → Prop) (w : World) (e : Ending) (w' : World) : Prop:=
  ∃ (x : α) (us : List Value) (f : Nat),P x ∧ e = .returned (.agg us.toArray) ∧ aH w' f us (row x) ∧ Below w.heap.size w w'
end Go.Proofs.YtcfbkfmkjggcdaaGreatDoor.draw
