/- spec.BracedText. -/
import Derived.Test.YtlnfbpdicjcpgaaGreatDoorSayS
import Derived.Test.YtlnfbpdicjcpgaaGreatDoorGSayP
import Derived.Test.YtlnfbpdicjcpgaaGreatDoorTrOkS
namespace Go.Proofs.YtlnfbpdicjcpgaaGreatDoor.say
open Go.ChangeShapes Go.WideShapes Go.ChangeAt Go.RowKit tree
set_option linter.unusedVariables false

set_option maxRecDepth 100000 in
set_option maxHeartbeats 4000000 in
theorem spec_braced (f : Nat) (t : T) (vs : List Value) (w : World) (h : LiesS w f vs (row t)) (hsz : size t ≤ 1099511627776) :
    Calls Tryz.prog 5 #[.agg vs.toArray] w fun e w' => e = .returned (.string (bracedF t)) ∧ Below w.heap.size w w' := by
  have hnums := lies_nums f t vs w h
  obtain ⟨u0, u1, u2, u3, u4, u5, rfl⟩ := six_of (h.1.trans (row_length _))
  obtain ⟨w1, hw1⟩ : ∃ w1, w1 = w.alloc (.cells #[u0, u1, u2, u3, u4, u5] 28) := ⟨_, rfl⟩
  have hb1 : Below w.heap.size w w1 := by rw [hw1]; exact (Below.refl _ _).alloc (Nat.le_refl _) _
  have hrow1 : w1.heap[w.heap.size]? = some (.cells #[u0, u1, u2, u3, u4, u5] 28 (0, 0)) := by rw [hw1]; exact heap_alloc_new w _
  have HO := Lib.hid (spec_okay f t _ w1 (h.below hb1) hsz)
  have Hb1 := Lib.hid hb1
  have Hrow1 := Lib.hid hrow1
  have Hl1 := Lib.hid (h.below hb1)
  have Hw1 := Lib.hid hw1
  obtain ⟨p0, p1, p2, p3, p4, p5⟩ := Row6.of hrow1
  rw [hw1] at p0 p1 p2 p3 p4 p5
  clear h hb1 hrow1 hw1
  by_cases hok : Ok t
  · rw [show dec (Ok t) = true by unfold dec; simp [hok]] at HO
    have hle := say_le t hok.2.2 hnums
    have hs3 := hok.2.1
    have Hsh := Lib.hid hok.2.2
    have Hres := Lib.hid (braced_yes hok)
    clear hok hnums
    go_enter Tryz.func5, Tryz.ntmps5
    go_wp2_with fail
    rw [← Hw1.out]
    refine HO.out.mono ?_
    rintro e w2 ⟨rfl, hb2⟩
    have Hl2 := Lib.hid (Hl1.out.below hb2)
    have Hb2 := Lib.hid (below_link Hb1.out hb2 Hb1.out.size)
    have hrow2 := heap_kept hb2 (heap_lt Hrow1.out) Hrow1.out
    clear p0 p1 p2 p3 p4 p5 HO Hw1 Hl1 Hb1 hb2
    obtain ⟨p0, p1, p2, p3, p4, p5⟩ := Row6.of hrow2
    have hown0 : (w2.alloc (.cells #[] 5)).ownsRow w2.heap.size 5 1 (.slice (some ⟨w2.heap.size, 0, none⟩) 0 0) 0 (bcells []) := World.ownsRow_lit w2 #[] 0 (Nat.le_refl _) (by simp [maxLen]) rfl
    have HS := Lib.hid (spec_say f t _ w2 (w2.alloc (.cells #[] 5)) _ 0 [] Hl2.out Hsh.out ((Below.refl _ _).alloc (Nat.le_refl _) _) hown0 rfl (by omega))
    clear hown0 Hsh Hl2
    go_wp2_with fail
    refine HS.out.mono ?_
    rintro e w3 ⟨v3, m3, rfl, hl3, hown3, hb3, _⟩
    have hconv := binfo.conv hl3 hown3
    rw [List.nil_append] at hconv hl3
    have Hb3 := Lib.hid (below_link Hb2.out hb3 Hb2.out.size)
    clear HS hown3 hb3 p0 p1 p2 p3 p4 p5 hrow2 Hrow1 Hb2
    obtain ⟨d, hd⟩ : ∃ d : ByteArray, d = ⟨(say t).toArray⟩ := ⟨_, rfl⟩
    have hds : d.size = (say t).length := by rw [hd]; show (say t).toArray.size = _; rw [List.size_toArray]
    rw [← hd] at hconv
    have Hd := Lib.hid hd
    clear hd
    by_cases hlong : 20000 < d.size
    · have hr : bracedF t = ⟨#[]⟩ := by rw [Hres.out, if_neg (by omega)]
      clear hds hl3 hle
      go_wp2_with fail
      go_ret
      exact ⟨by rw [hr]; rfl, Hb3.out⟩
    · have hr : bracedF t = d := by rw [Hres.out, if_pos (by omega), Hd.out]
      clear hds hl3 hle
      go_wp2_with fail
      go_ret
      exact ⟨by rw [hr]; rfl, Hb3.out⟩
  · rw [show dec (Ok t) = false by unfold dec; simp [hok]] at HO
    have hr := braced_no hok
    clear hok hnums
    go_enter Tryz.func5, Tryz.ntmps5
    go_wp2_with fail
    rw [← Hw1.out]
    refine HO.out.mono ?_
    rintro e w2 ⟨rfl, hb2⟩
    have Hb2 := Lib.hid (below_link Hb1.out hb2 Hb1.out.size)
    clear p0 p1 p2 p3 p4 p5 HO Hw1 Hl1 Hb1 hb2
    go_wp2_with fail
    go_ret
    exact ⟨by rw [hr]; rfl, Hb2.out⟩
end Go.Proofs.YtlnfbpdicjcpgaaGreatDoor.say
