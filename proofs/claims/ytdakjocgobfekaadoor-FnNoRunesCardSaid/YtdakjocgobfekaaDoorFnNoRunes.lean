/- FnNoRunes: for every byte slice the law returns true. -/
import Derived.Test.YtdakjocgobfekaaDoorDrawUtf
import Derived.Test.YtdakjocgobfekaaDoorRnsI
import Derived.Test.YtdakjocgobfekaaDoorRnsS
import Derived.Test.YtdakjocgobfekaaDoorBigL
namespace Go.Proofs.YtdakjocgobfekaaDoor.fnNoRunes
open Go.ChangeShapes Go.WideShapes Go.ChangeAt Go.RowKit
open rune
set_option linter.unusedVariables false

/-- The texts that tell no number. -/
def wrongs : List ByteArray := [⟨#[192, 128]⟩, ⟨#[193, 191]⟩, ⟨#[224, 128, 128]⟩, ⟨#[237, 160, 128]⟩, ⟨#[237, 191, 191]⟩, ⟨#[240, 128, 128, 128]⟩, ⟨#[244, 144, 128, 128]⟩, ⟨#[248, 136, 128, 128, 128]⟩, ⟨#[128]⟩, ⟨#[255]⟩, ⟨#[226, 130]⟩, ⟨#[226, 130, 120]⟩]
def mid (b : ByteArray) : ByteArray := ⟨#[97]⟩ ++ b ++ ⟨#[98]⟩
theorem wrongs_all : ∀ b ∈ wrongs, 0 < b.size ∧ b.size ≤ 5 ∧ Utf8.decode b 0 = (65533, 1) ∧ (mid b).size = b.size + 2 ∧ at_ (mid b) 0 = 97 ∧ Utf8.decode (mid b) 1 = (65533, 1) := by decide +kernel
theorem at_wrong {b : ByteArray} (h0 : 0 < b.size) (h : Utf8.decode b 0 = (65533, 1)) : atF b 0 = (0, -1) := by
  rcases at_decode b 0 h0 with ⟨_, e⟩ | ⟨_, hne, _⟩
  · exact e
  · exact absurd h hne
theorem ok_wrong {b : ByteArray} (h0 : 0 < b.size) (h : Utf8.decode b 0 = (65533, 1)) : okS b = false := by
  refine (res_none ?_).2
  refine cut_none h0 ?_
  show (atF b 0).2 < 0
  rw [at_wrong h0 h]
  decide
theorem ok_mid {t : ByteArray} (h1 : 1 < t.size) (ha : at_ t 0 = 97) (h : Utf8.decode t 1 = (65533, 1)) : okS t = false := by
  refine (res_none ?_).2
  have hi : Is t 0 97 := is_of1 (by decide) (by omega) ha
  unfold runesF
  obtain ⟨b, hb⟩ : ∃ b, t.size = b + 1 := ⟨t.size - 1, by omega⟩
  rw [hb, cut_step hi]
  have e : cut t b (0 + (enc 97).length) = none := by
    refine cut_none (show 0 + (enc 97).length < t.size from h1) ?_
    show (atF t 1).2 < 0
    rcases at_decode t 1 h1 with ⟨_, e⟩ | ⟨_, hne, _⟩
    · rw [show atF t 1 = (0, -1) from e]; decide
    · exact absurd h hne
  rw [e]
  rfl
theorem ok_last : okS ⟨#[244, 143, 191, 191]⟩ = true := by
  have h := (res_some (runes_text [1114111])).2
  rw [show joinF [1114111] = ⟨#[244, 143, 191, 191]⟩ from by decide +kernel] at h
  exact h
theorem ok_edge : okS ⟨#[237, 159, 191]⟩ = true := by
  have h := (res_some (runes_text [55295])).2
  rw [show joinF [55295] = ⟨#[237, 159, 191]⟩ from by decide +kernel] at h
  exact h

set_option maxRecDepth 100000 in
set_option maxHeartbeats 4000000 in
theorem walk (A : Option Addr) (len cap : Nat) (zs : List Int) (W : World) (hr : IsRow .u8 W A len cap zs) (hT : Tabs W) :
    Calls Tryd.prog 4 #[.slice A len cap] W fun e w' => e = .returned (.bool true) ∧ Below W.heap.size W w' := by
  have hm := hr.le
  have hB := Lib.hid (lawBig.any A len cap W hm)
  unfold maxLen at hm
  by_cases h1 : 1048576 < len
  · clear hr hT
    go_enter Tryd.func4, Tryd.ntmps4
    go_wp2_with fail
    refine hB.out.mono ?_
    rintro e w1 ⟨rfl, rfl⟩
    go_wp2_with fail
    go_ret
    exact ⟨rfl, Below.refl _ _⟩
  have HD := Lib.hid (fun w1 (hb : Below W.heap.size W w1) => draw.utf8_any A len cap zs w1 (hr.below hb) (by omega))
  have HT := Lib.hid (fun w1 (hb : Below W.heap.size W w1) => hT.below hb)
  have Hrow := Lib.hid (show (W.alloc (.cells (scells wrongs).toArray 9)).heap[W.heap.size]? = some (.cells (scells wrongs).toArray 9 (0, 0)) from heap_alloc_new W _)
  have Hb0 := Lib.hid ((Below.refl W.heap.size W).alloc (Nat.le_refl _) (.cells (scells wrongs).toArray 9))
  have HA := Lib.hid (fun s w hs hT => impl_at s 0 w hs hT)
  have HU := Lib.hid (fun s w hs hT => impl_utf s w hs hT)
  have HV := Lib.hid (fun s w hs => spec_utf s w hs)
  clear hr hT
  go_enter Tryd.func4, Tryd.ntmps4
  go_wp2_with fail
  refine hB.out.mono ?_
  rintro e w1 ⟨rfl, rfl⟩
  clear hB
  go_wp2_with fail
  clear h1 hm
  go_loopw [4] (fun i wr => ∃ k : Nat, k ≤ 12 ∧ i = .int .i64 k ∧ wr.heap[W.heap.size]? = some (.cells (scells wrongs).toArray 9 (0, 0)) ∧ Below W.heap.size W wr) (fun i _ => 12 - (intOf i).toNat)
  case atStart => exact ⟨0, by decide, rfl, Hrow.out, Hb0.out⟩
  case round =>
    clear Hrow Hb0
    obtain ⟨k, hk, rfl, hrow, hbel⟩ := hrel
    by_cases hlt : k < 12
    · have hkl : k < wrongs.length := hlt
      obtain ⟨b, hb⟩ : ∃ b, b = wrongs[k] := ⟨_, rfl⟩
      obtain ⟨g1, g2, g3, g4, g5, g6⟩ := wrongs_all b (by rw [hb]; exact List.getElem_mem hkl)
      have hcell : ∀ w' : World, w'.heap[W.heap.size]? = some (.cells (scells wrongs).toArray 9 (0, 0)) → w'.cell? ⟨W.heap.size, k, none⟩ = some (.string b) := fun w' h => by
        rw [cell_of_row w' W.heap.size k _ 9 (0, 0) h]
        have := scells_get wrongs k hkl
        rw [hb]
        simpa using this
      have Hcell := Lib.hid hcell
      have hc0 := hcell wr hrow
      have HAb := Lib.hid (fun w => HA.out b w (by unfold maxLen; omega))
      have HUb := Lib.hid (fun w => HU.out b w (by omega))
      have HUm := Lib.hid (fun w => HU.out (mid b) w (by omega))
      rw [at_wrong g1 g3] at HAb
      rw [ok_wrong g1 g3] at HUb
      rw [ok_mid (by omega) g5 g6] at HUm
      unfold mid at HUm
      have hz1 : (⟨#[97]⟩ : ByteArray).size = 1 := rfl
      have hz2 : (⟨#[98]⟩ : ByteArray).size = 1 := rfl
      have hz3 : (⟨#[97]⟩ ++ b : ByteArray).size = 1 + b.size := by rw [ByteArray.size_append]; rfl
      have hadd1 : ¬ 9223372036854775807 < (⟨#[97]⟩ : ByteArray).size + b.size := by omega
      have hadd2 : ¬ 9223372036854775807 < (⟨#[97]⟩ ++ b : ByteArray).size + (⟨#[98]⟩ : ByteArray).size := by omega
      have Hrow := Lib.hid hrow
      have Hbel := Lib.hid hbel
      have hlen : wrongs.length = 12 := rfl
      clear hcell hb g1 g3 g4 g5 g6 hrow hbel HA HU hkl
      go_wp2_with fail
      refine (HAb.out _ (HT.out _ Hbel.out)).mono ?_
      rintro e w2 ⟨rfl, hb2⟩
      have Hrow2 := Lib.hid (heap_kept hb2 (Array.getElem?_eq_some_iff.1 Hrow.out).1 Hrow.out)
      have Hb2 := Lib.hid (Hbel.out.trans (hb2.mono Hbel.out.size))
      have hc2 := Hcell.out _ Hrow2.out
      clear HAb hb2 hc0 Hrow Hbel
      go_wp2_with fail
      refine (HUb.out _ (HT.out _ Hb2.out)).mono ?_
      rintro e w3 ⟨rfl, hb3⟩
      have Hrow3 := Lib.hid (heap_kept hb3 (Array.getElem?_eq_some_iff.1 Hrow2.out).1 Hrow2.out)
      have Hb3 := Lib.hid (Hb2.out.trans (hb3.mono Hb2.out.size))
      have hc3 := Hcell.out _ Hrow3.out
      clear HUb hb3 hc2 Hrow2 Hb2
      go_wp2_with fail
      refine (HUm.out _ (HT.out _ Hb3.out)).mono ?_
      rintro e w4 ⟨rfl, hb4⟩
      have Hrow4 := Lib.hid (heap_kept hb4 (Array.getElem?_eq_some_iff.1 Hrow3.out).1 Hrow3.out)
      have Hb4 := Lib.hid (Hb3.out.trans (hb4.mono Hb3.out.size))
      clear HUm hb4 hc3 Hrow3 Hb3 Hcell
      go_wp2_with fail
      go_roundw
      case rel => exact ⟨k + 1, by omega, by go_num, Hrow4.out, Hb4.out⟩
      case measure => simp [intOf]; omega
    · obtain rfl : k = 12 := by omega
      have Hb := Lib.hid hbel
      have HD2 := Lib.hid (HD.out wr hbel)
      clear hrow hbel HD HA
      go_wp2_with fail
      refine HD2.out.mono ?_
      rintro e w2 ⟨s, hs, rfl, hb2⟩
      have Hb2 := Lib.hid (Hb.out.trans (hb2.mono Hb.out.size))
      have HUs := Lib.hid (fun w => HU.out s w (by omega))
      have HVs := Lib.hid (fun w => HV.out s w (by omega))
      have HUx := Lib.hid (fun w => HU.out ⟨#[244, 143, 191, 191]⟩ w (by decide))
      have HUy := Lib.hid (fun w => HU.out ⟨#[237, 159, 191]⟩ w (by decide))
      rw [ok_last] at HUx
      rw [ok_edge] at HUy
      generalize okS s = b at HUs HVs
      clear HD2 hb2 Hb HU HV
      go_wp2_with fail
      refine (HUs.out _ (HT.out _ Hb2.out)).mono ?_
      rintro e w3 ⟨rfl, hb3⟩
      have Hb3 := Lib.hid (Hb2.out.trans (hb3.mono Hb2.out.size))
      clear HUs hb3 Hb2
      go_wp2_with fail
      refine (HVs.out _).mono ?_
      rintro e w4 ⟨rfl, hb4⟩
      have Hb4 := Lib.hid (Hb3.out.trans (hb4.mono Hb3.out.size))
      clear HVs hb4 Hb3
      go_wp2_with fail
      refine (HUx.out _ (HT.out _ Hb4.out)).mono ?_
      rintro e w5 ⟨rfl, hb5⟩
      have Hb5 := Lib.hid (Hb4.out.trans (hb5.mono Hb4.out.size))
      clear HUx hb5 Hb4
      go_wp2_with fail
      refine (HUy.out _ (HT.out _ Hb5.out)).mono ?_
      rintro e w6 ⟨rfl, hb6⟩
      have Hb6 := Lib.hid (Hb5.out.trans (hb6.mono Hb5.out.size))
      clear HUy hb6 Hb5
      go_wp2_with fail
      go_ret
      exact ⟨rfl, Hb6.out⟩
end Go.Proofs.YtdakjocgobfekaaDoor.fnNoRunes
