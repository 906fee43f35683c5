/- FnTolerates: for every byte slice the law returns true. -/
import Derived.Test.YtpadpiibiocabaaDoorDrawUn
import Derived.Test.YtpadpiibiocabaaDoorUntI
import Derived.Test.YtpadpiibiocabaaDoorUntS
import Derived.Test.YtpadpiibiocabaaDoorTlrtI
import Derived.Test.YtpadpiibiocabaaDoorTlrtS
import Derived.Test.YtpadpiibiocabaaDoorGSp
import Derived.Test.YtpadpiibiocabaaDoorFlSrt
import Derived.Test.YtpadpiibiocabaaDoorGIn
import Derived.Test.YtpadpiibiocabaaDoorLawL
import Derived.Test.YtpadpiibiocabaaDoorBigL
import Derived.Deep.RegionLaw
import Derived.Deep.CutRange
namespace Go.Proofs.YtpadpiibiocabaaDoor.fnTolerates
open Go.ChangeShapes Go.WideShapes Go.ChangeAt Go.RowKit
open lab ty draw taint need dedup
set_option linter.unusedVariables false

theorem lies_more {w : World} {B : Nat} {e : TypeId} {v : Value} {l : List Tolerance} {t : Tolerance} (h : w.ownsRow B e 4 v (l.length + 1) (l.flatMap Tolerance.cells ++ [.string t.key, .bool t.equal, .string t.value, .int .i64 t.effect])) (hl : ∀ x ∈ l, x.Wf) (ht : t.Wf) :
    Lies w 2 v (.sl 4 (l ++ [t]).length ((l ++ [t]).flatMap Tolerance.row)) := by
  have e1 : l.flatMap Tolerance.cells ++ [.string t.key, .bool t.equal, .string t.value, .int .i64 t.effect] = (l ++ [t]).flatMap Tolerance.cells := by
    rw [List.flatMap_append, List.flatMap_cons, List.flatMap_nil, List.append_nil]; rfl
  have e2 : l.length + 1 = (l ++ [t]).length := by simp
  rw [e1, e2] at h
  obtain ⟨F, ho, _⟩ := own_Tolerance h (by
    intro x hx
    rcases List.mem_append.1 hx with h | h
    · exact hl x h
    · rw [List.mem_singleton] at h; rw [h]; exact ht)
  exact ho.lies
theorem wf_all : allT.Wf := ⟨by decide, by decide, by decide⟩
theorem lies_all (w : World) : Lies (w.alloc (.cells #[.string ⟨#[]⟩, .bool false, .string ⟨#[]⟩, .int .i64 0] 30)) 2 (.slice (some ⟨w.heap.size, 0, none⟩) 1 1) (.sl 4 [allT].length ([allT].flatMap Tolerance.row)) := by
  obtain ⟨F, ho, _⟩ := own_Tolerance (w := w.alloc (.cells #[.string ⟨#[]⟩, .bool false, .string ⟨#[]⟩, .int .i64 0] 30)) (l := [allT]) (World.ownsRow_lit w #[.string ⟨#[]⟩, .bool false, .string ⟨#[]⟩, .int .i64 0] 1 (Nat.le_refl _) (by simp [maxLen]) rfl) (by
    intro x hx
    rw [List.mem_singleton] at hx; rw [hx]; exact wf_all)
  exact ho.lies
theorem taint_a : TaintP ⟨⟨#[97]⟩, ⟨#[]⟩, 1⟩ :=
  ⟨⟨by decide, ⟨by decide, by decide, by decide, fun i (hi : i < 1) => by
    obtain rfl : i = 0 := by omega
    decide⟩⟩, .inl rfl, by decide, by decide⟩
open Classical in
/-- How many are no right taints. -/
noncomputable def badF (m : List Taint) : Nat := (m.filter fun x => !decide (TaintP x)).length
open Classical in
theorem badF_next {m : List Taint} {j : Nat} (h : j < m.length) : badF (m.take (j + 1)) = badF (m.take j) + (if yes (TaintP m[j]) = true then 0 else 1) := by
  unfold badF
  rw [List.take_succ_eq_append_getElem h, List.filter_append, List.length_append]
  by_cases hp : TaintP m[j]
  · rw [yes_t hp]; simp [hp]
  · rw [yes_f hp]; simp [hp]
theorem badF_zero (m : List Taint) : badF (m.take 0) = 0 := rfl
theorem unF_bad (m : List Taint) (e : Int) : unF [allT] m e ≤ badF m := unF_all m e
set_option maxRecDepth 100000 in
set_option maxHeartbeats 32000000 in
theorem walk (A : Option Addr) (len cap : Nat) (zs : List Int) (W : World) (hr : IsRow .u8 W A len cap zs) :
    Calls Tryd.prog 3 #[.slice A len cap] W fun e w' => e = .returned (.bool true) ∧ Below W.heap.size W w' := by
  have hm := hr.le
  have hB := Lib.hid (lawBig.any A len cap W hm)
  unfold maxLen at hm
  by_cases h1 : 1048576 < len
  · clear hr
    go_enter Tryd.func3, Tryd.ntmps3
    go_wp2_with fail
    refine hB.out.mono ?_
    rintro e w1 ⟨rfl, rfl⟩
    go_wp2_with fail
    go_ret
    exact ⟨rfl, Below.refl _ _⟩
  have HD1 := Lib.hid (drawUntol A len cap zs W hr (by omega))
  have HD2 := Lib.hid (fun w (hb : Below W.heap.size W w) => drawTol A len cap zs w (hr.below hb) (by omega))
  clear hr
  go_enter Tryd.func3, Tryd.ntmps3
  go_wp2_with fail
  refine hB.out.mono ?_
  rintro e w1 ⟨rfl, rfl⟩
  clear hB
  go_wp2_with fail
  refine HD1.out.mono ?_
  clear HD1
  rintro e w1 ⟨l, m, x, v, u, f, g, hl, ht, hm2, hy, hx, rfl, L, M, hb1⟩
  have HL := Lib.hid (fun w (hb : Below w1.heap.size w1 w) => L.below hb)
  have HM := Lib.hid (fun w (hb : Below w1.heap.size w1 w) => M.below hb)
  have B1 := Lib.hid hb1
  obtain ⟨A1, c1, rfl, hc11, hc12, f1, rfl, hk1⟩ := els_of Tolerance.row_length L
  obtain ⟨A2, c2, rfl, hc21, hc22, f2, rfl, hk2⟩ := els_of Taint.row_length M
  obtain ⟨hrd, hwfl⟩ := rdk_Tolerance hk1
  obtain ⟨i0, hi, hz0, hz1, hz2⟩ := info_parts TrydinfITolerance
  unfold maxLen at hc12 hc22
  have sl : wsum Tolerance.wt l ≤ 1048576 := Nat.le_trans (tinyL_sumTolerance ht) (by omega)
  have sm : wsum Taint.wt m ≤ 1048576 := Nat.le_trans (tinyL_sumTaint hy) (by omega)
  have Hrd := Lib.hid hrd
  have Hk2 := Lib.hid hk2
  have Hwl := Lib.hid hwfl
  have Hy := Lib.hid hy
  have HU := Lib.hid (fun w hb => impl_untol l m x _ _ _ _ w (HL.out w hb) (HM.out w hb))
  have HS := Lib.hid (fun w hb => spec_untol l m x _ _ _ _ w (HL.out w hb) (HM.out w hb) sl sm)
  have HU2 := Lib.hid (fun (t : Tolerance) (ht : t.Wf) (v : Value) (w w0 : World) (e : TypeId) (h0 : Below w1.heap.size w1 w0) (hb : Below w0.heap.size w0 w) (h : w.ownsRow w0.heap.size e 4 v (l.length + 1) (l.flatMap Tolerance.cells ++ [.string t.key, .bool t.equal, .string t.value, .int .i64 t.effect])) => impl_untol (l ++ [t]) m x 2 _ _ _ w (lies_more h Hwl.out ht) (HM.out w (below_link h0 hb h0.size)))
  have HU3 := Lib.hid (fun (w : World) (hb : Below w1.heap.size w1 w) => impl_untol [allT] m x 2 _ _ _ (w.alloc (.cells #[.string ⟨#[]⟩, .bool false, .string ⟨#[]⟩, .int .i64 0] 30)) (lies_all w) (HM.out _ (below_link hb ((Below.refl _ _).alloc (Nat.le_refl _) _) hb.size)))
  have hle2 := fun t => unF_more l t m x
  have hle3 := unF_bad m x
  obtain ⟨n3, hn3⟩ : ∃ n, n = unF [allT] m x := ⟨_, rfl⟩
  obtain ⟨n, hn⟩ : ∃ n, n = unF l m x := ⟨_, rfl⟩
  rw [← hn] at HU HS hle2
  rw [← hn3] at HU3 hle3
  clear hrd hk1 hk2 L M ht hy hb1 hn hn3 HL hwfl
  go_wp2_with fail
  refine (HU.out w1 (Below.refl _ _)).mono ?_
  rintro e w2 ⟨rfl, hb2⟩
  have C2 := Lib.hid hb2
  have B2 := Lib.hid (below_link B1.out hb2 B1.out.size)
  have HD := Lib.hid (HD2.out w2 B2.out)
  clear hb2 B1 HD2 HU
  go_wp2_with fail
  refine HD.out.mono ?_
  clear HD
  rintro e w3 ⟨t, y, ht, hy, rfl, hb3⟩
  have C3 := Lib.hid (below_link C2.out hb3 C2.out.size)
  have B3 := Lib.hid (below_link B2.out hb3 B2.out.size)
  have Ht := Lib.hid ht
  have Hyy := Lib.hid hy
  clear hb3 C2 B2 ht hy
  have hle2 := hle2 t
  have HUm := Lib.hid (HU2.out t (Ht.out.wf (by decide)))
  obtain ⟨n2, hn2⟩ : ∃ n, n = unF (l ++ [t]) m x := ⟨_, rfl⟩
  rw [← hn2] at HUm hle2
  clear HU2 hn2
  obtain ⟨wd, hwd⟩ : ∃ wd, wd = (w3.alloc (.cells #[.string t.key, .bool t.equal, .string t.value, .int .i64 t.effect] 30)).alloc (.cells #[.string y.key, .string y.value, .int .i64 y.effect] 32) := ⟨_, rfl⟩
  have h7 : RowE 30 wd w3.heap.size [.string t.key, .bool t.equal, .string t.value, .int .i64 t.effect] := by rw [hwd]; exact (RowE.new _ _ _).alloc
  have h8 : RowE 32 wd (w3.heap.size + 1) [.string y.key, .string y.value, .int .i64 y.effect] := by
    have h := RowE.new 32 (w3.alloc (.cells #[.string t.key, .bool t.equal, .string t.value, .int .i64 t.effect] 30)) [.string y.key, .string y.value, .int .i64 y.effect]
    rw [show (w3.alloc (.cells #[.string t.key, .bool t.equal, .string t.value, .int .i64 t.effect] 30)).heap.size = w3.heap.size + 1 by simp] at h
    rw [hwd]; exact h
  have hbd : Below w3.heap.size w3 wd := by rw [hwd]; exact ((Below.refl _ _).alloc (Nat.le_refl _) _).alloc (by simp) _
  have Hwd := Lib.hid hwd
  obtain ⟨b7, hb7⟩ : ∃ b, b = w3.heap.size := ⟨_, rfl⟩
  have Hb7 := Lib.hid hb7
  have Cd := below_link C3.out hbd C3.out.size
  have Bd := Lib.hid (below_link B3.out hbd B3.out.size)
  rw [← hb7] at h7 h8
  have Hrd1 := Lib.hid (Hrd.out.below Cd)
  have e0 := h7.cell 0 _ rfl
  have e1 := h7.cell 1 _ rfl
  have e2 := h7.cell 2 _ rfl
  have e3 := h7.cell 3 _ rfl
  have hlt7 : b7 < wd.heap.size := heap_lt h7
  have R78 := Lib.hid (fun w' (hb : Below wd.heap.size wd w') => (⟨h7.below hb, h8.below hb⟩ : RowE 30 w' b7 [.string t.key, .bool t.equal, .string t.value, .int .i64 t.effect] ∧ RowE 32 w' (b7 + 1) [.string y.key, .string y.value, .int .i64 y.effect]))
  have HUd := Lib.hid (fun v w e hb h => HUm.out v w wd e Cd hb h)
  have CD := Lib.hid Cd
  have hk64 : l.length ≤ 64 := by omega
  clear hwd h7 h8 hbd hb7 Cd Hrd HUm C3 B3
  go_wp2_with fail
  rw [← Hwd.out, ← Hb7.out]
  clear Hwd Hb7
  go_cut [9] from 30 to 38 (fun s9 wx => s9 = .int .i64 n2 ∧ Hid (Below wd.heap.size wd wx))
  case first =>
    go_wp2_with fail
    go_region_law (first
      | (refine flt.step_first (wd := wd) rfl (.tmp 30) (.tmp 31) 24 rfl 30 i0 _ 4 48 Tryd.underlying24 hi hz0 hz1 hz2 rfl (by decide) (by decide) _ rfl ?_ ?_ A1 l.length c1 (l.flatMap Tolerance.cells) rfl Hrd1.out (flt.ones_flat Tolerance.cells_one l) hk64 ?_
         · first | exact flt.bel1 _ _ | exact flt.bel2 _ _ _
         · first | exact flt.lit1 _ _ _ | exact flt.lit2 _ _ _ _ | exact flt.lit3 _ _ _ _
         intro v5 w5 hown5 hb5 hs5 hkeep5
         have e0 := (World.cell?_of_block (hb5.block b7 hlt7)).trans e0
         have e1 := (World.cell?_of_block (hb5.block b7 hlt7)).trans e1
         have e2 := (World.cell?_of_block (hb5.block b7 hlt7)).trans e2
         have e3 := (World.cell?_of_block (hb5.block b7 hlt7)).trans e3
         first | have hr5 := flt.rdk2 (k := 4) rfl hkeep5 | have hr5 := flt.rdk3 (k := 4) rfl hkeep5 | skip)
      | (refine flt.step_second (wd := wd) rfl (.tmp 32) (.tmp 34) 24 rfl 30 i0 _ 4 48 Tryd.underlying24 hi hz0 hz1 hz2 rfl (by decide) (by decide) _ l.length (l.flatMap Tolerance.cells) [.string t.key, .bool t.equal, .string t.value, .int .i64 t.effect] rfl ?_ ?_ (some ⟨_, 0, none⟩) rfl ?_ (Tolerance.cells_one t) hk64 ?_
         · first | exact hb5 | exact hb5.alloc hb5.size _
         · first | exact hown5 | exact own_below' hown5 ((Below.refl _ _).alloc (Nat.le_refl _) _)
         · first | exact hr5 | exact flt.rdk_lit _ _ _ rfl
         intro v6 w6 hown6 hb6)
      | (go_simp; go_at_call 14; refine (HUd.out _ _ _ hb6 hown6).mono ?_; rintro e w7 ⟨rfl, hb7⟩))
    all_goals
      have Hb := Lib.hid (below_link hb6 hb7 hb6.size)
      clear hown5 hb5 hs5 hkeep5 hown6 hb6 hb7
      go_wp2_with fail
      go_meet
      exact ⟨rfl, Hb⟩
  case rest =>
  obtain ⟨rfl, hwc⟩ := hcut
  have Bc := Lib.hid (below_link Bd.out hwc.out Bd.out.size)
  have Cc := Lib.hid (below_link CD.out hwc.out CD.out.size)
  have Rc := Lib.hid (fun w' (hb : Below wc.heap.size wc w') => R78.out w' (below_link hwc.out hb hwc.out.size))
  have HTa := Lib.hid (fun j (hj : j < m.length) w' => spec_taint m[j] w' (Nat.le_trans (wsum_mem Taint.wt hj) sm))
  have HEl := Lib.hid (fun w' (hb : Below wc.heap.size wc w') => Hk2.out.below (below_link Cc.out hb Cc.out.size))
  clear hwc Bd CD R78 Hk2 e0 e1 e2 e3 hlt7 HUd Hrd1
  go_wp2_with fail
  go_loopw [10, 11] (fun bv i wr => ∃ j q : Nat, j ≤ m.length ∧ i = .int .i64 j ∧ bv = .int .i64 q ∧ q ≤ j ∧ Hid (badF (m.take j) = q) ∧ Below wc.heap.size wc wr) (fun _ i _ => m.length - (intOf i).toNat)
  case atStart => exact ⟨0, 0, Nat.zero_le _, rfl, rfl, Nat.le_refl _, by unfold Hid; rfl, Below.refl _ _⟩
  case round =>
    obtain ⟨wo, rfl⟩ : ∃ wo, wo = wr := ⟨_, rfl⟩
    obtain ⟨j, q, hj, rfl, rfl, hqj, hbad, hbel⟩ := hrel
    have Hbel := Lib.hid hbel
    by_cases hlt : j < m.length
    · obtain ⟨g2, o2, rfl, hg2, us, hus, hc, hls⟩ := (HEl.out wo hbel).get hlt
      obtain ⟨rfl, hwf⟩ := Taint.opened hls
      have q0 : wo.cell? ⟨g2, o2 + j * 3, none⟩ = some (.string m[j].key) := hc 0 _ rfl
      have q1 : wo.cell? ⟨g2, o2 + j * 3 + 1, none⟩ = some (.string m[j].value) := hc 1 _ rfl
      have q2 : wo.cell? ⟨g2, o2 + j * 3 + 2, none⟩ = some (.int .i64 m[j].effect) := hc 2 _ rfl
      have Hnx := Lib.hid (badF_next hlt)
      have HT := Lib.hid (HTa.out j hlt wo)
      have hj0 : (0 : Int) ≤ (j : Int) := by omega
      have hjn : (j : Int) < (m.length : Int) := by omega
      clear hc hls hus hwf hbel HTa HEl HS HU3 Rc Bc Cc
      generalize m[j] = z at q0 q1 q2 Hnx HT
      obtain ⟨b0, hb0⟩ : ∃ b, yes (TaintP z) = b := ⟨_, rfl⟩
      rw [hb0] at Hnx HT
      clear hb0
      cases b0 with
      | true =>
        have Hn2 : Hid (badF (m.take (j + 1)) = q) := by unfold Hid; rw [Hnx.out, hbad.out]; simp
        go_wp2_with fail
        refine HT.out.mono ?_
        rintro e w5 ⟨rfl, hb⟩
        have G := Lib.hid (below_link Hbel.out hb Hbel.out.size)
        clear hb
        go_wp2_with fail
        go_roundw
        case rel => exact ⟨j + 1, q, by omega, by go_num, rfl, by omega, Hn2.out, G.out⟩
        case measure => simp [intOf]; omega
      | false =>
        have Hn2 : Hid (badF (m.take (j + 1)) = q + 1) := by unfold Hid; rw [Hnx.out, hbad.out]; simp
        go_wp2_with fail
        refine HT.out.mono ?_
        rintro e w5 ⟨rfl, hb⟩
        have G := Lib.hid (below_link Hbel.out hb Hbel.out.size)
        clear hb
        go_wp2_with fail
        go_roundw
        case rel => exact ⟨j + 1, q + 1, by omega, by go_num, by go_num, by omega, Hn2.out, G.out⟩
        case measure => simp [intOf]; omega
    · obtain rfl : j = m.length := by omega
      have hbq := hbad.out
      rw [List.take_length] at hbq
      have d3 : decide ((n3 : Int) ≤ (q : Int)) = true := decide_eq_true (by omega)
      have d2 : decide ((n2 : Int) ≤ (n : Int)) = true := decide_eq_true (by omega)
      have d5 : decide (n3 ≤ q) = true := decide_eq_true (by omega)
      have d6 : decide (n2 ≤ n) = true := decide_eq_true (by omega)
      have d7 : n3 ≤ q := by omega
      have d1 : ((n : Int) == (n : Int)) = true := beq_self_eq_true _
      have HZ := Lib.hid (HU3.out wo (below_link Cc.out hbel Cc.out.size))
      have Co := Lib.hid (below_link Cc.out hbel Cc.out.size)
      have Bo := Lib.hid (below_link Bc.out hbel Bc.out.size)
      have Ro := Lib.hid (fun w' (hb : Below wo.heap.size wo w') => Rc.out w' (below_link hbel hb hbel.size))
      clear hbel hbad hbq Hbel HTa HEl HU3 Rc Bc Cc hle3
      go_wp2_with fail
      refine HZ.out.mono ?_
      rintro e w8 ⟨rfl, hb8⟩
      have ha := (Below.refl wo.heap.size wo).alloc (Nat.le_refl _) (.cells #[.string ⟨#[]⟩, .bool false, .string ⟨#[]⟩, .int .i64 0] 30)
      have h8 := below_link ha hb8 ha.size
      have C8 := below_link Co.out h8 Co.out.size
      have B8 := Lib.hid (below_link Bo.out h8 Bo.out.size)
      have p0 : ∀ p : BelowBy w8, p.v.cell? ⟨b7, 0, none⟩ = some (.string t.key) := fun p => (Ro.out p.v (below_link h8 p.h h8.size)).1.cell 0 _ rfl
      have p1 : ∀ p : BelowBy w8, p.v.cell? ⟨b7, 1, none⟩ = some (.bool t.equal) := fun p => (Ro.out p.v (below_link h8 p.h h8.size)).1.cell 1 _ rfl
      have p2 : ∀ p : BelowBy w8, p.v.cell? ⟨b7, 2, none⟩ = some (.string t.value) := fun p => (Ro.out p.v (below_link h8 p.h h8.size)).1.cell 2 _ rfl
      have p3 : ∀ p : BelowBy w8, p.v.cell? ⟨b7, 3, none⟩ = some (.int .i64 t.effect) := fun p => (Ro.out p.v (below_link h8 p.h h8.size)).1.cell 3 _ rfl
      have r0 : ∀ p : BelowBy w8, p.v.cell? ⟨b7 + 1, 0, none⟩ = some (.string y.key) := fun p => (Ro.out p.v (below_link h8 p.h h8.size)).2.cell 0 _ rfl
      have r1 : ∀ p : BelowBy w8, p.v.cell? ⟨b7 + 1, 1, none⟩ = some (.string y.value) := fun p => (Ro.out p.v (below_link h8 p.h h8.size)).2.cell 1 _ rfl
      have r2 : ∀ p : BelowBy w8, p.v.cell? ⟨b7 + 1, 2, none⟩ = some (.int .i64 y.effect) := fun p => (Ro.out p.v (below_link h8 p.h h8.size)).2.cell 2 _ rfl
      have HSp := Lib.hid (fun p : BelowBy w8 => HS.out p.v (below_link C8 p.h C8.size))
      have HT1 := Lib.hid (fun p : BelowBy w8 => impl_tlr t y p.v (Ht.out.wf (by decide)) (Hyy.out.wf (by decide)))
      have HT2 := Lib.hid (fun p : BelowBy w8 => spec_tlr t y p.v (by have h1 := Ht.out.key; have h2 := Ht.out.value; unfold Tolerance.wt; omega) (by have h1 := Hyy.out.key; have h2 := Hyy.out.value; unfold Taint.wt; omega))
      have HT3 : Hid (∀ p : BelowBy w8, Calls Tryd.prog 18 #[.agg #[.string ⟨#[]⟩, .bool false, .string ⟨#[]⟩, .int .i64 0], .agg #[.string ⟨#[97]⟩, .string ⟨#[]⟩, .int .i64 1]] p.v fun e w' => e = .returned (.bool true) ∧ Below p.v.heap.size p.v w') := fun p => by
        have h := impl_tlr allT ⟨⟨#[97]⟩, ⟨#[]⟩, 1⟩ p.v wf_all ⟨by decide, by decide, by decide⟩
        rw [tol_all taint_a] at h
        exact h
      generalize tolF t y = r at HT1 HT2
      have d4 : (r == r) = true := beq_self_eq_true _
      clear hb8 ha h8 C8 HS HZ Co Bo Ro Ht Hyy
      go_wp2_with fail
      refine wp_region_quiet_below (by kernel_rfl) (by kernel_rfl) ?_
      repeat (refine @wpQuiet_step _ _ _ _ _ _ _ ?_; intro K hK; go_simp; first | (refine hK _ ?_; clear hK K) | (apply Exists.intro; refine ⟨fun _ => ?_, hK _ ?_⟩; (first | (go_at_call 17; exact Calls.below_of (HSp.out _)) | (go_at_call 19; exact Calls.below_of (HT2.out _)) | (go_at_call 18; first | (with_reducible exact Calls.below_of (HT1.out _)) | (with_reducible exact Calls.below_of (HT3.out _)))); clear hK K))
      refine wpQuiet_nil ?_
      intro _ hw'
      obtain ⟨p, rfl⟩ := hw'
      go_wp2_with fail
      go_ret
      exact ⟨rfl, below_link B8.out p.h B8.out.size⟩
end Go.Proofs.YtpadpiibiocabaaDoor.fnTolerates
