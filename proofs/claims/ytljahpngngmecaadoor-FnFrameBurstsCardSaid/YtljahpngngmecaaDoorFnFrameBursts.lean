/- FnFrameBursts: for every byte slice the law returns true. -/
import Derived.Test.YtljahpngngmecaaDoorDrawFrame
import Derived.Test.YtljahpngngmecaaDoorDrawPlaces
import Derived.Test.YtljahpngngmecaaDoorFrTextI
import Derived.Test.YtljahpngngmecaaDoorFrRdI
import Derived.Test.YtljahpngngmecaaDoorFlipS
import Derived.BigQuiet
import Derived.Deep.RegionHeld3
namespace Go.Proofs.YtljahpngngmecaaDoor.fnFrameBursts
open Go.ChangeShapes Go.WideShapes Go.ChangeAt Go.RowKit
open frame
set_option linter.unusedVariables false

theorem below_link {w a b : World} (h : Below w.heap.size w a) (k : Below a.heap.size a b) : Below w.heap.size w b := h.trans (k.mono h.size)
theorem below_new {w a : World} (h : Below w.heap.size w a) (o : Obj) : Below w.heap.size w (a.alloc o) := h.alloc h.size _
theorem kept_call {w w' : World} {g : Nat} {o : Obj} (h : w.heap[g]? = some o) (hb : Below w.heap.size w w') : w'.heap[g]? = some o := heap_kept hb (Array.getElem?_eq_some_iff.1 h).1 h
theorem kept_new {w : World} {g : Nat} {o : Obj} (h : w.heap[g]? = some o) (o2 : Obj) : (w.alloc o2).heap[g]? = some o := kept_call h ((Below.refl _ _).alloc (Nat.le_refl _) _)
theorem nonempty {s : ByteArray} (h : 0 < s.size) : (s.toList == []) = false ∧ s.toList.isEmpty = false := by
  have h1 := empty_no h
  refine ⟨?_, h1⟩
  cases hl : s.toList with
  | nil => rw [hl] at h1; cases h1
  | cons a r => rfl

/-- The two cells that are read, and all below, stand. -/
def KS (w4 : World) (g o : Nat) (p0 p1 : Int) (w' : World) : Prop := Below w4.heap.size w4 w' ∧ w'.cell? ⟨g, o, none⟩ = some (.int .i64 p0) ∧ w'.cell? ⟨g, o + 1, none⟩ = some (.int .i64 p1)
theorem KS.of {w4 w' : World} {g o : Nat} {p0 p1 : Int} (c0 : w4.cell? ⟨g, o, none⟩ = some (.int .i64 p0)) (c1 : w4.cell? ⟨g, o + 1, none⟩ = some (.int .i64 p1)) (h : Below w4.heap.size w4 w') : KS w4 g o p0 p1 w' :=
  ⟨h, (h.cell (World.block_lt_of_cell? _ _ c0)).trans c0, (h.cell (World.block_lt_of_cell? _ _ c1)).trans c1⟩
theorem ks_call {w4 a b : World} (h : Below w4.heap.size w4 a) (k : Below a.heap.size a b) : Below w4.heap.size w4 b := h.trans (k.mono h.size)
theorem ks_new {w4 a : World} (h : Below w4.heap.size w4 a) (o : Obj) : Below w4.heap.size w4 (a.alloc o) := h.alloc h.size _
theorem ks_set {w4 a : World} {k : Nat} (h : Below w4.heap.size w4 a) (hk : w4.heap.size ≤ k) (x y : Value) : Below w4.heap.size w4 ((a.setCell ⟨k, 0, none⟩ x).setCell ⟨k, 1, none⟩ y) :=
  (h.setCell (p := ⟨k, 0, none⟩) hk _).setCell (p := ⟨k, 1, none⟩) hk _

set_option maxRecDepth 100000 in
set_option maxHeartbeats 16000000 in
theorem walk (A : Option Addr) (len cap : Nat) (zs : List Int) (W : World) (hr : IsRow .u8 W A len cap zs) (hSent : Sent W) :
    Calls Tryd.prog 4 #[.slice A len cap] W fun e w' => e = .returned (.bool true) ∧ Below W.heap.size W w' := by
  have hm := hr.le
  have hB := Lib.hid (lawBig.any A len cap W hm)
  unfold maxLen at hm
  obtain ⟨at5, hA⟩ := Sent.at_ hSent
  have HA := Lib.hid hA
  clear hSent hA
  by_cases h1 : 1048576 < len
  · clear hr
    go_enter Tryd.func4, Tryd.ntmps4
    go_wp2_with fail
    refine hB.out.mono ?_
    rintro e w1 ⟨rfl, rfl⟩
    go_wp2_with fail
    go_ret
    exact ⟨rfl, Below.refl _ _⟩
  have HP := Lib.hid (draw.places_any A len cap zs W hr (by omega))
  have HD := Lib.hid (fun w h => draw.frameText_any A len cap zs w h (by omega))
  have Hr := Lib.hid hr
  clear hr
  go_enter Tryd.func4, Tryd.ntmps4
  go_wp2_with fail
  refine hB.out.mono ?_
  rintro e w1 ⟨rfl, rfl⟩
  clear hB
  go_wp2_with fail
  refine HP.out.mono ?_
  clear HP
  rintro e w1 ⟨vs, ls, rfl, hll, hall, hown, hb1⟩
  obtain ⟨C, cc, rfl, _, _, hrd⟩ := Rd.of_own hown
  have Hrd := Lib.hid hrd
  have HQ := Lib.hid (HD.out w1 (Hr.out.below hb1))
  have Hb0 := Lib.hid hb1
  clear hrd hown HD Hr hb1
  go_wp2_with fail
  refine HQ.out.mono ?_
  clear HQ
  rintro e w2 ⟨v, p, ⟨hv1, hv2, hp0⟩, rfl, hb2⟩
  have Hrd2 := Lib.hid ((Hrd.out.below hb2).below ((Below.refl _ _).alloc (Nat.le_refl _) (.cells #[.int .i64 v, .string p] 25)))
  have hpm : p.size ≤ maxLen := by unfold maxLen; omega
  have Hb := Lib.hid (below_new (below_link Hb0.out hb2) (.cells #[.int .i64 v, .string p] 25))
  have f4 := heap_alloc_new w2 (.cells #[.int .i64 v, .string p] 25)
  obtain ⟨g4, hg4⟩ : ∃ g, w2.heap.size = g := ⟨_, rfl⟩
  rw [hg4] at f4
  have HT := Lib.hid (fun w => impl_text v p w hpm)
  have HO := Lib.hid (fun w => spec_ok v p w hpm)
  clear hb2 Hrd Hb0
  unfold frV at HT HO ⊢
  cases hok : okF v p with
  | false =>
    rw [hok] at HO
    rw [frame_no hok] at HT
    have H3 := Lib.hid (fun w => crc.impl_sum ⟨#[49, 50, 51, 52, 53, 54, 55, 56, 57]⟩ w (by unfold maxLen; decide))
    rw [crc.sum_check] at H3
    clear hv1 hv2 hp0 HA Hrd2 hall
    go_wp2_with fail
    refine (HT.out _).mono ?_
    rintro e w3 ⟨rfl, hb⟩
    replace Hb := Lib.hid (below_link Hb.out hb)
    replace f4 := kept_call f4 hb
    clear hb HT
    go_wp2_with (first | (refine wpList_load_row rfl 25 _ rfl g4 rfl 25 #[.int .i64 v, .string p] (0, 0) _ f4 Tryd.underlying25 rfl frame_info ?_) | fail)
    refine (HO.out _).mono ?_
    rintro e w4 ⟨rfl, hb⟩
    replace Hb := Lib.hid (below_link Hb.out hb)
    clear hb HO f4
    go_wp2_with fail
    refine (H3.out _).mono ?_
    rintro e w5 ⟨rfl, hb⟩
    replace Hb := Lib.hid (below_link Hb.out hb)
    clear hb H3
    go_wp2_with fail
    go_ret
    exact ⟨rfl, Hb.out⟩
  | true =>
    have hk := (ok_iff v p).1 hok
    rw [hok] at HO
    have hsz := frame_size hok
    have hbu := fun q B hB hB2 hq => read_burst hok q B hB hB2 hq
    generalize hF : frameF v p = F at *
    rw [← hsz] at hbu
    have hF14 : 14 ≤ F.size := by omega
    have hFm : F.size ≤ 19994 := by omega
    clear hsz
    obtain ⟨hne, hne2⟩ := nonempty (s := F) (by omega)
    clear hF hok
    go_wp2_with fail
    refine (HT.out _).mono ?_
    rintro e w3 ⟨rfl, hb⟩
    replace Hb := Lib.hid (below_link Hb.out hb)
    replace f4 := kept_call f4 hb
    replace Hrd2 := Lib.hid (Hrd2.out.below hb)
    clear hb HT
    go_wp2_with (first | (refine wpList_load_row rfl 25 _ rfl g4 rfl 25 #[.int .i64 v, .string p] (0, 0) _ f4 Tryd.underlying25 rfl frame_info ?_) | fail)
    refine (HO.out _).mono ?_
    rintro e w4 ⟨rfl, hb⟩
    replace Hb := Lib.hid (below_link Hb.out hb)
    have hrd3 := Hrd2.out.below hb
    clear hb HO f4 Hrd2
    obtain ⟨g, o, rfl, hg, hcell⟩ := hrd3.2 (by decide)
    match ls, hll with
    | [p0, p1, p2, p3, p4, p5, p6, p7, p8, p9, p10, p11], _ =>
    have hc : ∀ j, j < 12 → ∀ u, (icells [p0, p1, p2, p3, p4, p5, p6, p7, p8, p9, p10, p11])[j]? = some u → w4.cell? ⟨g, o + j, none⟩ = some u := hcell
    have b0 := hall p0 (by simp)
    have b1 := hall p1 (by simp)
    have b2 := hall p2 (by simp)
    have c0 : w4.cell? ⟨g, o, none⟩ = some (.int .i64 p0) := hc 0 (by decide) _ rfl
    have c1 : w4.cell? ⟨g, o + 1, none⟩ = some (.int .i64 p1) := hc 1 (by decide) _ rfl
    have c2 : w4.cell? ⟨g, o + 2, none⟩ = some (.int .i64 p2) := hc 2 (by decide) _ rfl
    clear hc hcell hall hrd3
    have e1 : IntKind.i64.wrap (p0 * 10000) = p0 * 10000 := IntWalk.i64_in _ (by omega)
    have e2 : IntKind.i64.wrap (p0 * 10000 + p1) = p0 * 10000 + p1 := IntWalk.i64_in _ (by omega)
    have e3 : IntKind.i64.wrap (2 * (p0 * 10000 + p1)) = 2 * (p0 * 10000 + p1) := IntWalk.i64_in _ (by omega)
    have e5 : IntKind.i64.wrap (1 + 2 * (p0 * 10000 + p1)) = 1 + 2 * (p0 * 10000 + p1) := IntWalk.i64_in _ (by omega)
    have hpos : (0 : Int) < 8 * (F.size : Int) := by omega
    have hm0 := Int.emod_nonneg p2 (show (8 * (F.size : Int)) ≠ 0 by omega)
    have hm1 := Int.emod_lt_of_pos p2 hpos
    obtain ⟨q, hq⟩ := Int.eq_ofNat_of_zero_le hm0
    have hqt : p2.tmod (8 * (F.size : Int)) = (q : Int) := by rw [Int.tmod_eq_emod_of_nonneg b2.1]; exact hq
    rw [hq] at hm1
    have hnz : ¬ 8 * (F.size : Int) = 0 := by omega
    have hnz2 : (8 * (F.size : Int) == 0) = false := beq_eq_false_iff_ne.2 hnz
    go_wp2_with fail
    obtain ⟨B, hBd⟩ : ∃ B : Nat, 1 + 2 * (p0 * 10000 + p1) = (B : Int) := ⟨(1 + 2 * (p0 * 10000 + p1)).toNat, by omega⟩
    have hB32 : B < 4294967296 := by omega
    have e6 : IntKind.i64.wrap (B : Int) = (B : Int) := IntWalk.i64_in _ (by omega)
    have hB2 : B % 2 = 1 := by omega
    have HF := Lib.hid (fun w => crc.spec_flip F q B w (by omega) (by omega))
    have hfs := crc.flipF_size F q B hB32
    have hbq := hbu q B hB32 hB2 (by omega)
    have HR := Lib.hid (fun w' (h : Below W.heap.size W w') => impl_read (crc.flipF F q B) w' at5 (HA.out.below h) (by unfold maxLen; omega))
    generalize crc.flipF F q B = X at HF HR hbq
    obtain ⟨hr0, hr1⟩ := hbq
    generalize readF X = rd at HR hr0 hr1
    obtain ⟨⟨rv, rp⟩, k⟩ := rd
    obtain ⟨rfl, rfl⟩ : rv = 0 ∧ rp = ⟨#[]⟩ := by simpa using hr0
    have hk1 : ¬ k = 0 := hr1
    have hk2 : (k != 0) = true := by simpa using hr1
    have hk3 : (k == 0) = false := beq_eq_false_iff_ne.2 hr1
    unfold rdV frV at HR
    have i0 : (0 : Int) < 12 := by decide
    have i1 : (1 : Int) < 12 := by decide
    have HW : Hid (∀ w', Below w4.heap.size w4 w' → Below W.heap.size W w') := fun w' h => below_link Hb.out h
    have hks := KS.of c0 c1 (Below.refl w4.heap.size w4).drew
    clear hr0 hr1 hbu hfs hB32 hB2 hm0 hm1 hq hqt c2 HA b0 b1 b2 hk hF14 hFm hne hne2 hnz hnz2 hpos
    refine wp_region_held_drew (S := (fun w' => Below w4.heap.size w4 w' ∧ w'.cell? ⟨g, o, none⟩ = some (.int .i64 p0) ∧ w'.cell? ⟨g, o + 1, none⟩ = some (.int .i64 p1))) (by kernel_rfl) ?_ (fun hHeld => ?_)
    · first | exact hks | exact KS.of c0 c1 (ks_new hHeld.1 _) | exact KS.of c0 c1 (ks_call hHeld.1 hb6) | exact KS.of c0 c1 (ks_call hHeld.1 hb5) | exact KS.of c0 c1 (ks_set hHeld.1 hkk _ _) | exact hHeld
    refine wpAnyH_take (i := 0) (v := ?_) rfl (by kernel_rfl) (by kernel_rfl) (by kernel_rfl) (fun _ _ _ h => h) (Or.inl ⟨by rfl, ?_⟩) (by assumption) ?_
    rotate_left
    · intro w' hSw
      try dsimp only at hSw
      go_simp
      try with_reducible rfl
    try simp only [Act.put, List.setIfInBounds_toArray, List.set_cons_zero, List.set_cons_succ, List.getElem_toArray, List.getElem_cons_zero, List.getElem_cons_succ]
    refine wpAnyH_take (i := 1) (v := ?_) rfl (by kernel_rfl) (by kernel_rfl) (by kernel_rfl) (fun _ _ _ h => h) (Or.inl ⟨by rfl, ?_⟩) (by assumption) ?_
    rotate_left
    · intro w' hSw
      try dsimp only at hSw
      go_simp
      try with_reducible rfl
    try simp only [Act.put, List.setIfInBounds_toArray, List.set_cons_zero, List.set_cons_succ, List.getElem_toArray, List.getElem_cons_zero, List.getElem_cons_succ]
    refine wpAnyH_take (i := 2) (v := ?_) rfl (by kernel_rfl) (by kernel_rfl) (by kernel_rfl) (fun _ _ _ h => h) (Or.inl ⟨by rfl, ?_⟩) (by assumption) ?_
    rotate_left
    · intro w' hSw
      try dsimp only at hSw
      go_simp
      try with_reducible rfl
    try simp only [Act.put, List.setIfInBounds_toArray, List.set_cons_zero, List.set_cons_succ, List.getElem_toArray, List.getElem_cons_zero, List.getElem_cons_succ]
    refine wpAnyH_take (i := 3) (v := ?_) rfl (by kernel_rfl) (by kernel_rfl) (by kernel_rfl) (fun _ _ _ h => h) (Or.inl ⟨by rfl, ?_⟩) (by assumption) ?_
    rotate_left
    · intro w' hSw
      try dsimp only at hSw
      go_simp
      try with_reducible rfl
    try simp only [Act.put, List.setIfInBounds_toArray, List.set_cons_zero, List.set_cons_succ, List.getElem_toArray, List.getElem_cons_zero, List.getElem_cons_succ]
    refine wpAnyH_take (i := 4) (v := ?_) rfl (by kernel_rfl) (by kernel_rfl) (by kernel_rfl) (fun _ _ _ h => h) (Or.inl ⟨by rfl, ?_⟩) (by assumption) ?_
    rotate_left
    · intro w' hSw
      try dsimp only at hSw
      go_simp
      try with_reducible rfl
    try simp only [Act.put, List.setIfInBounds_toArray, List.set_cons_zero, List.set_cons_succ, List.getElem_toArray, List.getElem_cons_zero, List.getElem_cons_succ]
    refine wpAnyH_take (i := 5) (v := ?_) rfl (by kernel_rfl) (by kernel_rfl) (by kernel_rfl) (fun _ _ _ h => h) (Or.inl ⟨by rfl, ?_⟩) (by assumption) ?_
    rotate_left
    · intro w' hSw
      try dsimp only at hSw
      go_simp
      try with_reducible rfl
    try simp only [Act.put, List.setIfInBounds_toArray, List.set_cons_zero, List.set_cons_succ, List.getElem_toArray, List.getElem_cons_zero, List.getElem_cons_succ]
    refine wpAnyH_take (i := 6) (v := ?_) rfl (by kernel_rfl) (by kernel_rfl) (by kernel_rfl) (fun _ _ _ h => h) (Or.inl ⟨by rfl, ?_⟩) (by assumption) ?_
    rotate_left
    · intro w' hSw
      try dsimp only at hSw
      go_simp
      try with_reducible rfl
    try simp only [Act.put, List.setIfInBounds_toArray, List.set_cons_zero, List.set_cons_succ, List.getElem_toArray, List.getElem_cons_zero, List.getElem_cons_succ]
    refine wpAnyH_take (i := 7) (v := ?_) rfl (by kernel_rfl) (by kernel_rfl) (by kernel_rfl) (fun _ _ _ h => h) (Or.inl ⟨by rfl, ?_⟩) (by assumption) ?_
    rotate_left
    · intro w' hSw
      try dsimp only at hSw
      go_simp
      try with_reducible rfl
    try simp only [Act.put, List.setIfInBounds_toArray, List.set_cons_zero, List.set_cons_succ, List.getElem_toArray, List.getElem_cons_zero, List.getElem_cons_succ]
    refine wpAnyH_take (i := 8) (v := ?_) rfl (by kernel_rfl) (by kernel_rfl) (by kernel_rfl) (fun _ _ _ h => h) (Or.inl ⟨by rfl, ?_⟩) (by assumption) ?_
    rotate_left
    · intro w' hSw
      try dsimp only at hSw
      go_simp
      try with_reducible rfl
    try simp only [Act.put, List.setIfInBounds_toArray, List.set_cons_zero, List.set_cons_succ, List.getElem_toArray, List.getElem_cons_zero, List.getElem_cons_succ]
    refine wpAnyH_take (i := 9) (v := ?_) rfl (by kernel_rfl) (by kernel_rfl) (by kernel_rfl) (fun _ _ _ h => h) (Or.inl ⟨by rfl, ?_⟩) (by assumption) ?_
    rotate_left
    · intro w' hSw
      try dsimp only at hSw
      go_simp
      try with_reducible rfl
    try simp only [Act.put, List.setIfInBounds_toArray, List.set_cons_zero, List.set_cons_succ, List.getElem_toArray, List.getElem_cons_zero, List.getElem_cons_succ]
    refine wpAnyH_take (i := 10) (v := ?_) rfl (by kernel_rfl) (by kernel_rfl) (by kernel_rfl) (fun _ _ _ h => h) (Or.inl ⟨by rfl, ?_⟩) (by assumption) ?_
    rotate_left
    · intro w' hSw
      try dsimp only at hSw
      go_simp
      try with_reducible rfl
    try simp only [Act.put, List.setIfInBounds_toArray, List.set_cons_zero, List.set_cons_succ, List.getElem_toArray, List.getElem_cons_zero, List.getElem_cons_succ]
    refine wpAnyH_take (i := 11) (v := ?_) rfl (by kernel_rfl) (by kernel_rfl) (by kernel_rfl) (fun _ _ _ h => h) (Or.inl ⟨by rfl, ?_⟩) (by assumption) ?_
    rotate_left
    · intro w' hSw
      try dsimp only at hSw
      go_simp
      try with_reducible rfl
    try simp only [Act.put, List.setIfInBounds_toArray, List.set_cons_zero, List.set_cons_succ, List.getElem_toArray, List.getElem_cons_zero, List.getElem_cons_succ]
    refine wpAnyH_ready (rs := [12, 17]) (by kernel_rfl) (by simp) ?_
    refine AllReadyH.cons rfl (fun K hK => ?_) ?_
    · go_simp
      go_at_call 19
      refine (HF.out _).mono ?_
      rintro e w5 ⟨rfl, hb5⟩
      go_wp2_with fail
      refine hK.out _ _ ?_ (fun hHeld => ?_)
      · first | exact hks | exact KS.of c0 c1 (ks_new hHeld.1 _) | exact KS.of c0 c1 (ks_call hHeld.1 hb6) | exact KS.of c0 c1 (ks_call hHeld.1 hb5) | exact KS.of c0 c1 (ks_set hHeld.1 hkk _ _) | exact hHeld
      clear hK K
      try simp only [Act.put, List.setIfInBounds_toArray, List.set_cons_zero, List.set_cons_succ, List.getElem_toArray, List.getElem_cons_zero, List.getElem_cons_succ]
      refine wpAnyH_ready (rs := [13, 17]) (by kernel_rfl) (by simp) ?_
      refine AllReadyH.cons rfl (fun K hK => ?_) ?_
      · go_simp
        go_at_call 14
        refine (HR.out _ (HW.out _ hHeld.1)).mono ?_
        rintro e w6 ⟨rfl, hb6⟩
        go_wp2_with fail
        refine hK.out _ _ ?_ (fun hHeld => ?_)
        · first | exact hks | exact KS.of c0 c1 (ks_new hHeld.1 _) | exact KS.of c0 c1 (ks_call hHeld.1 hb6) | exact KS.of c0 c1 (ks_call hHeld.1 hb5) | exact KS.of c0 c1 (ks_set hHeld.1 hkk _ _) | exact hHeld
        clear hK K
        try simp only [Act.put, List.setIfInBounds_toArray, List.set_cons_zero, List.set_cons_succ, List.getElem_toArray, List.getElem_cons_zero, List.getElem_cons_succ]
        refine wpAnyH_take (i := 14) (v := ?_) rfl (by kernel_rfl) (by kernel_rfl) (by kernel_rfl) (fun _ _ _ h => h) (Or.inl ⟨by rfl, ?_⟩) (by assumption) ?_
        rotate_left
        · intro w' hSw
          try dsimp only at hSw
          go_simp
          try with_reducible rfl
        try simp only [Act.put, List.setIfInBounds_toArray, List.set_cons_zero, List.set_cons_succ, List.getElem_toArray, List.getElem_cons_zero, List.getElem_cons_succ]
        refine wpAnyH_take (i := 15) (v := ?_) rfl (by kernel_rfl) (by kernel_rfl) (by kernel_rfl) (fun _ _ _ h => h) (Or.inl ⟨by rfl, ?_⟩) (by assumption) ?_
        rotate_left
        · intro w' hSw
          try dsimp only at hSw
          go_simp
          try with_reducible rfl
        try simp only [Act.put, List.setIfInBounds_toArray, List.set_cons_zero, List.set_cons_succ, List.getElem_toArray, List.getElem_cons_zero, List.getElem_cons_succ]
        refine wpAnyH_take (i := 16) (v := ?_) rfl (by kernel_rfl) (by kernel_rfl) (by kernel_rfl) (fun _ _ _ h => h) (Or.inl ⟨by rfl, ?_⟩) (by assumption) ?_
        rotate_left
        · intro w' hSw
          try dsimp only at hSw
          go_simp
          try with_reducible rfl
        try simp only [Act.put, List.setIfInBounds_toArray, List.set_cons_zero, List.set_cons_succ, List.getElem_toArray, List.getElem_cons_zero, List.getElem_cons_succ]
        refine wpAnyH_ready (rs := [17]) (by kernel_rfl) (by simp) ?_
        refine AllReadyH.cons rfl (fun K hK => ?_) ?_
        · have hHA : w4.heap.size ≤ w6.heap.size := hHeld.1.size
          go_simp
          refine hK.out _ _ ?_ (fun hHeld => ?_)
          · first | exact hks | exact KS.of c0 c1 (ks_new hHeld.1 _) | exact KS.of c0 c1 (ks_call hHeld.1 hb6) | exact KS.of c0 c1 (ks_call hHeld.1 hb5) | exact KS.of c0 c1 (ks_set hHeld.1 hkk _ _) | exact hHeld
          clear hK K
          try simp only [Act.put, List.setIfInBounds_toArray, List.set_cons_zero, List.set_cons_succ, List.getElem_toArray, List.getElem_cons_zero, List.getElem_cons_succ]
          refine wpAnyH_ready (rs := [18]) (by kernel_rfl) (by simp) ?_
          refine AllReadyH.cons rfl (fun K hK => ?_) ?_
          · have hst := heap_alloc_new w6 (.cells #[.int .i64 0, .string ⟨#[]⟩] 25)
            obtain ⟨z0, z1, y0, y1⟩ := two_cells hst
            have hset := hst
            have hkk : w4.heap.size ≤ w6.heap.size := by first | exact hHA | (have := hHA; omega)
            go_simp
            refine hK.out _ _ ?_ (fun hHeld => ?_)
            · first | exact hks | exact KS.of c0 c1 (ks_new hHeld.1 _) | exact KS.of c0 c1 (ks_call hHeld.1 hb6) | exact KS.of c0 c1 (ks_call hHeld.1 hb5) | exact KS.of c0 c1 (ks_set hHeld.1 hkk _ _) | exact hHeld
            clear hK K
            try simp only [Act.put, List.setIfInBounds_toArray, List.set_cons_zero, List.set_cons_succ, List.getElem_toArray, List.getElem_cons_zero, List.getElem_cons_succ]
            refine wpAnyH_take (i := 19) (v := ?_) rfl (by kernel_rfl) (by kernel_rfl) (by kernel_rfl) (fun _ _ _ h => h) (Or.inl ⟨by rfl, ?_⟩) (by assumption) ?_
            rotate_left
            · intro w' hSw
              try dsimp only at hSw
              go_simp
              try with_reducible rfl
            try simp only [Act.put, List.setIfInBounds_toArray, List.set_cons_zero, List.set_cons_succ, List.getElem_toArray, List.getElem_cons_zero, List.getElem_cons_succ]
            refine wpAnyH_done (by kernel_rfl) ?_ _
            have hBf := HW.out _ hHeld.1
            obtain ⟨z0, z1, y0, y1⟩ := two_cells hset
            clear hset hst
            go_wp2_with fail
            go_ret
            exact ⟨rfl, hBf⟩
          exact AllReadyH.nil
        exact AllReadyH.nil
      refine AllReadyH.cons rfl (fun K hK => ?_) ?_
      · have hHA : w4.heap.size ≤ w5.heap.size := hHeld.1.size
        go_simp
        refine hK.out _ _ ?_ (fun hHeld => ?_)
        · first | exact hks | exact KS.of c0 c1 (ks_new hHeld.1 _) | exact KS.of c0 c1 (ks_call hHeld.1 hb6) | exact KS.of c0 c1 (ks_call hHeld.1 hb5) | exact KS.of c0 c1 (ks_set hHeld.1 hkk _ _) | exact hHeld
        clear hK K
        try simp only [Act.put, List.setIfInBounds_toArray, List.set_cons_zero, List.set_cons_succ, List.getElem_toArray, List.getElem_cons_zero, List.getElem_cons_succ]
        refine wpAnyH_ready (rs := [13]) (by kernel_rfl) (by simp) ?_
        refine AllReadyH.cons rfl (fun K hK => ?_) ?_
        · go_simp
          go_at_call 14
          refine (HR.out _ (HW.out _ hHeld.1)).mono ?_
          rintro e w6 ⟨rfl, hb6⟩
          go_wp2_with fail
          refine hK.out _ _ ?_ (fun hHeld => ?_)
          · first | exact hks | exact KS.of c0 c1 (ks_new hHeld.1 _) | exact KS.of c0 c1 (ks_call hHeld.1 hb6) | exact KS.of c0 c1 (ks_call hHeld.1 hb5) | exact KS.of c0 c1 (ks_set hHeld.1 hkk _ _) | exact hHeld
          clear hK K
          try simp only [Act.put, List.setIfInBounds_toArray, List.set_cons_zero, List.set_cons_succ, List.getElem_toArray, List.getElem_cons_zero, List.getElem_cons_succ]
          refine wpAnyH_take (i := 14) (v := ?_) rfl (by kernel_rfl) (by kernel_rfl) (by kernel_rfl) (fun _ _ _ h => h) (Or.inl ⟨by rfl, ?_⟩) (by assumption) ?_
          rotate_left
          · intro w' hSw
            try dsimp only at hSw
            go_simp
            try with_reducible rfl
          try simp only [Act.put, List.setIfInBounds_toArray, List.set_cons_zero, List.set_cons_succ, List.getElem_toArray, List.getElem_cons_zero, List.getElem_cons_succ]
          refine wpAnyH_take (i := 15) (v := ?_) rfl (by kernel_rfl) (by kernel_rfl) (by kernel_rfl) (fun _ _ _ h => h) (Or.inl ⟨by rfl, ?_⟩) (by assumption) ?_
          rotate_left
          · intro w' hSw
            try dsimp only at hSw
            go_simp
            try with_reducible rfl
          try simp only [Act.put, List.setIfInBounds_toArray, List.set_cons_zero, List.set_cons_succ, List.getElem_toArray, List.getElem_cons_zero, List.getElem_cons_succ]
          refine wpAnyH_take (i := 16) (v := ?_) rfl (by kernel_rfl) (by kernel_rfl) (by kernel_rfl) (fun _ _ _ h => h) (Or.inl ⟨by rfl, ?_⟩) (by assumption) ?_
          rotate_left
          · intro w' hSw
            try dsimp only at hSw
            go_simp
            try with_reducible rfl
          try simp only [Act.put, List.setIfInBounds_toArray, List.set_cons_zero, List.set_cons_succ, List.getElem_toArray, List.getElem_cons_zero, List.getElem_cons_succ]
          refine wpAnyH_ready (rs := [18]) (by kernel_rfl) (by simp) ?_
          refine AllReadyH.cons rfl (fun K hK => ?_) ?_
          · have hst := heap_kept hb6 (by simp) (heap_alloc_new w5 (.cells #[.int .i64 0, .string ⟨#[]⟩] 25))
            obtain ⟨z0, z1, y0, y1⟩ := two_cells hst
            have hset := set_two hst (.int .i64 0) (.string ⟨#[]⟩)
            have hkk : w4.heap.size ≤ w5.heap.size := by first | exact hHA | (have := hHA; omega)
            go_simp
            refine hK.out _ _ ?_ (fun hHeld => ?_)
            · first | exact hks | exact KS.of c0 c1 (ks_new hHeld.1 _) | exact KS.of c0 c1 (ks_call hHeld.1 hb6) | exact KS.of c0 c1 (ks_call hHeld.1 hb5) | exact KS.of c0 c1 (ks_set hHeld.1 hkk _ _) | exact hHeld
            clear hK K
            try simp only [Act.put, List.setIfInBounds_toArray, List.set_cons_zero, List.set_cons_succ, List.getElem_toArray, List.getElem_cons_zero, List.getElem_cons_succ]
            refine wpAnyH_take (i := 19) (v := ?_) rfl (by kernel_rfl) (by kernel_rfl) (by kernel_rfl) (fun _ _ _ h => h) (Or.inl ⟨by rfl, ?_⟩) (by assumption) ?_
            rotate_left
            · intro w' hSw
              try dsimp only at hSw
              go_simp
              try with_reducible rfl
            try simp only [Act.put, List.setIfInBounds_toArray, List.set_cons_zero, List.set_cons_succ, List.getElem_toArray, List.getElem_cons_zero, List.getElem_cons_succ]
            refine wpAnyH_done (by kernel_rfl) ?_ _
            have hBf := HW.out _ hHeld.1
            obtain ⟨z0, z1, y0, y1⟩ := two_cells hset
            clear hset hst
            go_wp2_with fail
            go_ret
            exact ⟨rfl, hBf⟩
          exact AllReadyH.nil
        exact AllReadyH.nil
      exact AllReadyH.nil
    refine AllReadyH.cons rfl (fun K hK => ?_) ?_
    · have hHA : w4.heap.size ≤ w4.heap.size := Nat.le_refl _
      go_simp
      refine hK.out _ _ ?_ (fun hHeld => ?_)
      · first | exact hks | exact KS.of c0 c1 (ks_new hHeld.1 _) | exact KS.of c0 c1 (ks_call hHeld.1 hb6) | exact KS.of c0 c1 (ks_call hHeld.1 hb5) | exact KS.of c0 c1 (ks_set hHeld.1 hkk _ _) | exact hHeld
      clear hK K
      try simp only [Act.put, List.setIfInBounds_toArray, List.set_cons_zero, List.set_cons_succ, List.getElem_toArray, List.getElem_cons_zero, List.getElem_cons_succ]
      refine wpAnyH_ready (rs := [12]) (by kernel_rfl) (by simp) ?_
      refine AllReadyH.cons rfl (fun K hK => ?_) ?_
      · go_simp
        go_at_call 19
        refine (HF.out _).mono ?_
        rintro e w5 ⟨rfl, hb5⟩
        go_wp2_with fail
        refine hK.out _ _ ?_ (fun hHeld => ?_)
        · first | exact hks | exact KS.of c0 c1 (ks_new hHeld.1 _) | exact KS.of c0 c1 (ks_call hHeld.1 hb6) | exact KS.of c0 c1 (ks_call hHeld.1 hb5) | exact KS.of c0 c1 (ks_set hHeld.1 hkk _ _) | exact hHeld
        clear hK K
        try simp only [Act.put, List.setIfInBounds_toArray, List.set_cons_zero, List.set_cons_succ, List.getElem_toArray, List.getElem_cons_zero, List.getElem_cons_succ]
        refine wpAnyH_ready (rs := [13]) (by kernel_rfl) (by simp) ?_
        refine AllReadyH.cons rfl (fun K hK => ?_) ?_
        · go_simp
          go_at_call 14
          refine (HR.out _ (HW.out _ hHeld.1)).mono ?_
          rintro e w6 ⟨rfl, hb6⟩
          go_wp2_with fail
          refine hK.out _ _ ?_ (fun hHeld => ?_)
          · first | exact hks | exact KS.of c0 c1 (ks_new hHeld.1 _) | exact KS.of c0 c1 (ks_call hHeld.1 hb6) | exact KS.of c0 c1 (ks_call hHeld.1 hb5) | exact KS.of c0 c1 (ks_set hHeld.1 hkk _ _) | exact hHeld
          clear hK K
          try simp only [Act.put, List.setIfInBounds_toArray, List.set_cons_zero, List.set_cons_succ, List.getElem_toArray, List.getElem_cons_zero, List.getElem_cons_succ]
          refine wpAnyH_take (i := 14) (v := ?_) rfl (by kernel_rfl) (by kernel_rfl) (by kernel_rfl) (fun _ _ _ h => h) (Or.inl ⟨by rfl, ?_⟩) (by assumption) ?_
          rotate_left
          · intro w' hSw
            try dsimp only at hSw
            go_simp
            try with_reducible rfl
          try simp only [Act.put, List.setIfInBounds_toArray, List.set_cons_zero, List.set_cons_succ, List.getElem_toArray, List.getElem_cons_zero, List.getElem_cons_succ]
          refine wpAnyH_take (i := 15) (v := ?_) rfl (by kernel_rfl) (by kernel_rfl) (by kernel_rfl) (fun _ _ _ h => h) (Or.inl ⟨by rfl, ?_⟩) (by assumption) ?_
          rotate_left
          · intro w' hSw
            try dsimp only at hSw
            go_simp
            try with_reducible rfl
          try simp only [Act.put, List.setIfInBounds_toArray, List.set_cons_zero, List.set_cons_succ, List.getElem_toArray, List.getElem_cons_zero, List.getElem_cons_succ]
          refine wpAnyH_take (i := 16) (v := ?_) rfl (by kernel_rfl) (by kernel_rfl) (by kernel_rfl) (fun _ _ _ h => h) (Or.inl ⟨by rfl, ?_⟩) (by assumption) ?_
          rotate_left
          · intro w' hSw
            try dsimp only at hSw
            go_simp
            try with_reducible rfl
          try simp only [Act.put, List.setIfInBounds_toArray, List.set_cons_zero, List.set_cons_succ, List.getElem_toArray, List.getElem_cons_zero, List.getElem_cons_succ]
          refine wpAnyH_ready (rs := [18]) (by kernel_rfl) (by simp) ?_
          refine AllReadyH.cons rfl (fun K hK => ?_) ?_
          · have hst : w6.heap[w4.heap.size]? = some (.cells #[.int .i64 0, .string ⟨#[]⟩] 25 (0, 0)) := heap_kept hb6 (Nat.lt_of_lt_of_le (by simp) hb5.size) (heap_kept hb5 (by simp) (heap_alloc_new w4.drew (.cells #[.int .i64 0, .string ⟨#[]⟩] 25)))
            obtain ⟨z0, z1, y0, y1⟩ := two_cells hst
            have hset := set_two hst (.int .i64 0) (.string ⟨#[]⟩)
            have hkk : w4.heap.size ≤ w4.heap.size := by first | exact hHA | (have := hHA; omega)
            go_simp
            refine hK.out _ _ ?_ (fun hHeld => ?_)
            · first | exact hks | exact KS.of c0 c1 (ks_new hHeld.1 _) | exact KS.of c0 c1 (ks_call hHeld.1 hb6) | exact KS.of c0 c1 (ks_call hHeld.1 hb5) | exact KS.of c0 c1 (ks_set hHeld.1 hkk _ _) | exact hHeld
            clear hK K
            try simp only [Act.put, List.setIfInBounds_toArray, List.set_cons_zero, List.set_cons_succ, List.getElem_toArray, List.getElem_cons_zero, List.getElem_cons_succ]
            refine wpAnyH_take (i := 19) (v := ?_) rfl (by kernel_rfl) (by kernel_rfl) (by kernel_rfl) (fun _ _ _ h => h) (Or.inl ⟨by rfl, ?_⟩) (by assumption) ?_
            rotate_left
            · intro w' hSw
              try dsimp only at hSw
              go_simp
              try with_reducible rfl
            try simp only [Act.put, List.setIfInBounds_toArray, List.set_cons_zero, List.set_cons_succ, List.getElem_toArray, List.getElem_cons_zero, List.getElem_cons_succ]
            refine wpAnyH_done (by kernel_rfl) ?_ _
            have hBf := HW.out _ hHeld.1
            obtain ⟨z0, z1, y0, y1⟩ := two_cells hset
            clear hset hst
            go_wp2_with fail
            go_ret
            exact ⟨rfl, hBf⟩
          exact AllReadyH.nil
        exact AllReadyH.nil
      exact AllReadyH.nil
    exact AllReadyH.nil
end Go.Proofs.YtljahpngngmecaaDoor.fnFrameBursts
