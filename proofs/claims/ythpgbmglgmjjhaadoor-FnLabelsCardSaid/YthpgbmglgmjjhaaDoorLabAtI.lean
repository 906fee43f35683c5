/- impl.LabelAt (trial). -/
import Derived.Test.YthpgbmglgmjjhaaDoorGLabM
import Derived.Test.YthpgbmglgmjjhaaDoorToLabel
import Derived.Laws.Cover1
namespace Go.Proofs.YthpgbmglgmjjhaaDoor.lab
open Go.ChangeShapes Go.WideShapes Go.ChangeAt Go.RowKit ty
set_option linter.unusedVariables false

set_option maxRecDepth 100000 in
theorem impl_at (l : List Label) (key : ByteArray) (f : Nat) (v : Value) (w : World) (h : Lies w f v (.sl 2 l.length (l.flatMap Label.row))) :
    Calls Tryd.prog 16 #[v, .string key] w fun e w' => e = .returned (twoS (atF l key)) ∧ Below w.heap.size w w' := by
  obtain ⟨A, c, rfl, hc1, hc2, f', rfl, hk⟩ := els_of Label.row_length h
  unfold maxLen at hc2
  obtain ⟨R, hR⟩ : ∃ R, atF l key = R := ⟨_, rfl⟩
  rw [hR]
  have Hno : Hid ((∀ j (hj : j < l.length), l[j].key ≠ key) → R = none) := fun h => by rw [← hR]; exact at_none' h
  have Hyes : Hid (∀ k (hk : k < l.length), (∀ j (hj : j < k), (l[j]'(by omega)).key ≠ key) → l[k].key = key → R = some l[k].value) := fun k hk h1 h2 => by rw [← hR]; exact atF_some hk h1 h2
  have Hk := Lib.hid hk
  clear h hk hR
  go_enter Tryd.func16, Tryd.ntmps16
  go_wp2_with fail
  go_loopw [10] (fun i wr => ∃ j : Nat, j ≤ l.length ∧ i = .int .i64 j ∧ Hid (∀ q (hq : q < j) (hl : q < l.length), l[q].key ≠ key) ∧ Below w.heap.size w wr) (fun i _ => l.length - (intOf i).toNat)
  case atStart => exact ⟨0, Nat.zero_le _, rfl, fun q hq => by omega, Below.refl _ _⟩
  case round =>
    obtain ⟨j, hj, rfl, hall, hbel⟩ := hrel
    have Hbel := Lib.hid hbel
    by_cases hlt : j < l.length
    · obtain ⟨g, o, hA, hg, us, hus, hcc, hls⟩ := (Hk.out.below hbel).get hlt
      obtain ⟨rfl, hwf⟩ := Label.opened hls
      have q0 : wr.cell? ⟨g, o + j * 2, none⟩ = some (.string l[j].key) := hcc 0 _ rfl
      have q1 : wr.cell? ⟨g, o + j * 2 + 1, none⟩ = some (.string l[j].value) := hcc 1 _ rfl
      have Hb2 : Hid (∀ o, Below w.heap.size w (wr.alloc o)) := fun o => hbel.alloc hbel.size o
      by_cases he : l[j].key = key
      · have Hf := Lib.hid (Hyes.out j hlt (fun q hq => hall.out q hq (by omega)) he)
        have hs := same_yes he
        subst hA
        clear he Hno Hyes hall hcc hls hus hwf hbel hg
        generalize l[j].key = x at q0 hs
        generalize l[j].value = y at q1 Hf
        go_wp2_with fail
        go_ret2
        exact ⟨by rw [Hf.out]; rfl, Hb2.out _⟩
      · have Hs := Lib.hid he
        have hs := same_no he
        subst hA
        clear he Hno Hyes hcc hls hus hwf hbel hg
        generalize l[j].key = x at q0 hs
        generalize l[j].value = y at q1
        go_wp2_with fail
        go_roundw
        case rel => exact ⟨j + 1, by omega, by go_num, fun q hq hl => by
          by_cases e : q = j
          · subst e; exact Hs.out
          · exact hall.out q (by omega) hl, Hb2.out _⟩
        case measure => simp [intOf]; omega
    · obtain rfl : j = l.length := by omega
      have Hf := Lib.hid (Hno.out fun q hq => hall.out q hq hq)
      clear hall hbel
      go_wp2_with fail
      go_ret2
      exact ⟨by rw [Hf.out]; rfl, Hbel.out⟩
end Go.Proofs.YthpgbmglgmjjhaaDoor.lab
