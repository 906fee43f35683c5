/- FnFigures: for every byte slice the law returns true, where the library's table and sentinels hold what their texts lay. -/
import Derived.Test.YtmknkpoihnpnkaaDoorDrawPlaces
import Derived.Test.YtmknkpoihnpnkaaDoorHexI
import Derived.Test.YtmknkpoihnpnkaaDoorUnhexI
import Derived.Test.YtmknkpoihnpnkaaDoorHexBack
import Derived.Test.YtmknkpoihnpnkaaDoorBroughtI
import Derived.Test.YtmknkpoihnpnkaaDoorReadDecI
import Derived.Deep.RegionHeld3
import Derived.Deep.DeepCutAuto
namespace Go.Proofs.YtmknkpoihnpnkaaDoor.fnFigures
open Go.ChangeShapes Go.WideShapes Go.ChangeAt Go.RowKit
set_option linter.unusedVariables false

theorem big_any (A : Option Addr) (len cap : Nat) (w : World) (h : len ≤ maxLen) :
    Calls Tryd.prog 8 #[.slice A len cap] w fun e w' => e = .returned (.bool (decide (1048576 < (len : Int)))) ∧ w = w' := by
  unfold maxLen at h
  go_enter Tryd.func8, Tryd.ntmps8
  go_wp2_with fail
  go_ret
  exact ⟨rfl, rfl⟩

theorem conv_two (a b : Int) (ha : 0 ≤ a ∧ a < 256) (hb : 0 ≤ b ∧ b < 256) (w : World) :
    (convert 22 9 (.slice (some ⟨w.heap.size, 0, none⟩) 2 2)).run Tryd.prog (w.alloc (.cells #[.int .u8 a, .int .u8 b] 5)) = .ok (.string ⟨#[UInt8.ofNat a.toNat, UInt8.ofNat b.toNat]⟩) (w.alloc (.cells #[.int .u8 a, .int .u8 b] 5)) := by
  have e : (bcells [UInt8.ofNat a.toNat, UInt8.ofNat b.toNat]) = [.int .u8 a, .int .u8 b] := by simp [bcells]; omega
  have h0 := World.ownsRow_lit (size := 1) (base := w.heap.size) (e := 5) w #[.int .u8 a, .int .u8 b] 2 (Nat.le_refl _) (by simp [maxLen]) rfl
  exact run_convert_own (P := Tryd.prog) (w.alloc (.cells #[.int .u8 a, .int .u8 b] 5)) 22 5 9 Tryd.underlying22 Tryd.underlying5 Tryd.underlying9 w.heap.size (.slice (some ⟨w.heap.size, 0, none⟩) 2 2) [UInt8.ofNat a.toNat, UInt8.ofNat b.toNat] (by unfold OwnB; rw [e]; exact h0)
theorem conv_two_drew (a b : Int) (ha : 0 ≤ a ∧ a < 256) (hb : 0 ≤ b ∧ b < 256) (w : World) :
    (convert 22 9 (.slice (some ⟨w.heap.size, 0, none⟩) 2 2)).run Tryd.prog (w.alloc (.cells #[.int .u8 a, .int .u8 b] 5)).drew = .ok (.string ⟨#[UInt8.ofNat a.toNat, UInt8.ofNat b.toNat]⟩) (w.alloc (.cells #[.int .u8 a, .int .u8 b] 5)).drew :=
  conv_two a b ha hb w.drew

theorem conv_at (a b : Int) (ha : 0 ≤ a ∧ a < 256) (hb : 0 ≤ b ∧ b < 256) (w : World) (k : Nat) (h : w.heap[k]? = some (.cells #[.int .u8 a, .int .u8 b] 5 (0, 0))) :
    (convert 22 9 (.slice (some ⟨k, 0, none⟩) 2 2)).run Tryd.prog w = .ok (.string ⟨#[UInt8.ofNat a.toNat, UInt8.ofNat b.toNat]⟩) w := by
  have e : (bcells [UInt8.ofNat a.toNat, UInt8.ofNat b.toNat]) = [.int .u8 a, .int .u8 b] := by simp [bcells]; omega
  exact run_convert_own (P := Tryd.prog) w 22 5 9 Tryd.underlying22 Tryd.underlying5 Tryd.underlying9 k (.slice (some ⟨k, 0, none⟩) 2 2) [UInt8.ofNat a.toNat, UInt8.ofNat b.toNat] (by unfold OwnB; rw [e]; exact ⟨by simp, .inr ⟨k, 2, _, rfl, Nat.le_refl _, h, Nat.le_refl _, by simp [maxLen], rfl, rfl⟩⟩)

/-- The call of Decimal in a world that has at most new blocks: what was read before reads on. -/
theorem dec_call (p5 p6 p7 : Int) (g o : Nat) (W w1 W0 : World) (hW : Below W.heap.size W w1) (h0 : Below w1.heap.size w1 W0) (b : -9223372036854775808 ≤ p5 ∧ p5 ≤ 9223372036854775807) (hP : decimal.Pow W) (hg : g < w1.heap.size)
    (c5 : w1.cell? ⟨g, o + 5, none⟩ = some (.int .i64 p5)) (c6 : w1.cell? ⟨g, o + 6, none⟩ = some (.int .i64 p6)) (c7 : w1.cell? ⟨g, o + 7, none⟩ = some (.int .i64 p7)) :
    Calls Tryd.prog 20 #[.int .i64 p5] W0 fun e w2 => e = .returned (.string ⟨(Lib.itoa p5).toArray⟩) ∧ Below w1.heap.size w1 w2 ∧ Below W0.heap.size W0 w2 ∧
      w2.cell? ⟨g, o + 5, none⟩ = some (.int .i64 p5) ∧ w2.cell? ⟨g, o + 6, none⟩ = some (.int .i64 p6) ∧ w2.cell? ⟨g, o + 7, none⟩ = some (.int .i64 p7) := by
  refine (decimal.impl_any p5 W0 b.1 b.2 (hP.below (hW.trans (h0.mono hW.size)))).mono ?_
  rintro e w2 ⟨rfl, hb2⟩
  have h12 := h0.trans (hb2.mono h0.size)
  exact ⟨rfl, h12, hb2, (h12.cell (p := ⟨g, o + 5, none⟩) hg).trans c5, (h12.cell (p := ⟨g, o + 6, none⟩) hg).trans c6, (h12.cell (p := ⟨g, o + 7, none⟩) hg).trans c7⟩

theorem bro_bd (n l m : Int) (h : l ≤ m) : l ≤ brought.bro n l m ∧ brought.bro n l m ≤ m := by
  unfold brought.bro
  repeat' split
  all_goals omega
theorem bro_mid (n l m : Int) (h1 : l ≤ n) (h2 : n ≤ m) : brought.bro n l m = n := by
  unfold brought.bro
  repeat' split
  all_goals omega

/-- ReadDecimal gives back what Decimal wrote. -/
theorem read_back (n : Int) (h0 : 0 ≤ n) (h1 : n ≤ 1000000000) (w : World) (hP : decimal.Pow w) :
    Calls Tryd.prog 18 #[.string ⟨(Lib.itoa n).toArray⟩] w fun e w' => e = .returned (.tuple #[.int .i64 n, .bool true]) ∧ Below w.heap.size w w' := by
  obtain ⟨u, rfl⟩ := Int.eq_ofNat_of_zero_le h0
  have hl := num.dec_len 9 u (by omega)
  refine readnum.impl_yes _ w u ?_ hP ⟨by omega, ?_⟩
  · show (Lib.itoa (u : Int)).toArray.size ≤ _
    rw [List.size_toArray, num.itoa_nat]; omega
  · show (Lib.itoa (u : Int)).toArray.toList = _
    rw [num.itoa_nat]

theorem dec_bd (n : Int) (h0 : 0 ≤ n) (h1 : n < 1000000000) : (Lib.itoa n).length ≤ 10 := by
  obtain ⟨u, rfl⟩ := Int.eq_ofNat_of_zero_le h0
  rw [num.itoa_nat]
  exact num.dec_len 9 u (by omega)

set_option maxRecDepth 100000 in
set_option maxHeartbeats 4000000 in
theorem walk (A : Option Addr) (len cap : Nat) (zs : List Int) (W : World) (hr : IsRow .u8 W A len cap zs) (hP : decimal.Pow W) (hR : readnum.ErrVar W "strconv.ErrRange") (hE : readnum.ErrVar W "strconv.ErrSyntax") :
    Calls Tryd.prog 7 #[.slice A len cap] W fun e w' => e = .returned (.bool true) ∧ Below W.heap.size W w' := by
  have hm := hr.le
  have hB := Lib.hid (big_any A len cap W hm)
  unfold maxLen at hm
  by_cases h1 : 1048576 < len
  · clear hr hP hR hE
    go_enter Tryd.func7, Tryd.ntmps7
    go_wp2_with fail
    refine hB.out.mono ?_
    rintro e w1 ⟨rfl, rfl⟩
    go_wp2_with fail
    go_ret
    exact ⟨rfl, Below.refl _ _⟩
  have HD := Lib.hid (draw.places_any A len cap zs W hr (by omega))
  have HP := Lib.hid hP
  have HR := Lib.hid hR
  have HE := Lib.hid hE
  clear hr hP hR hE
  go_enter Tryd.func7, Tryd.ntmps7
  go_wp2_with fail
  refine hB.out.mono ?_
  rintro e w1 ⟨rfl, rfl⟩
  clear hB
  go_wp2_with fail
  refine HD.out.mono ?_
  rintro e w1 ⟨v, l, rfl, hll, hall, hown, hb1⟩
  obtain ⟨B, c, rfl, _, _, hrd⟩ := Rd.of_own hown
  obtain ⟨g, o, rfl, hg, hcell⟩ := hrd.2 (by decide)
  match l, hll with
  | [p0, p1, p2, p3, p4, p5, p6, p7, p8, p9, p10, p11], _ =>
  have hc : ∀ j, j < 12 → ∀ u, (icells [p0, p1, p2, p3, p4, p5, p6, p7, p8, p9, p10, p11])[j]? = some u → w1.cell? ⟨g, o + j, none⟩ = some u := hcell
  have b0 := hall p0 (by simp)
  have b1 := hall p1 (by simp)
  have b2 := hall p2 (by simp)
  have b3 := hall p3 (by simp)
  have b4 := hall p4 (by simp)
  have b5 := hall p5 (by simp)
  have b6 := hall p6 (by simp)
  have b7 := hall p7 (by simp)
  have c0 := hc 0 (by decide) _ rfl
  have c1 := hc 1 (by decide) _ rfl
  have c2 := hc 2 (by decide) _ rfl
  have c3 := hc 3 (by decide) _ rfl
  have c4 := hc 4 (by decide) _ rfl
  have c5 := hc 5 (by decide) _ rfl
  have c6 := hc 6 (by decide) _ rfl
  have c7 := hc 7 (by decide) _ rfl
  clear hc hcell hall hrd hown HD
  go_wp2_with fail
  have k6 : IntKind.u8.wrap p6 = p6 % 256 := IntKind.wrap_u8 p6
  have k7 : IntKind.u8.wrap p7 = p7 % 256 := IntKind.wrap_u8 p7
  have q6 : 0 ≤ p6 % 256 ∧ p6 % 256 < 256 := by omega
  have q7 : 0 ≤ p7 % 256 ∧ p7 % 256 < 256 := by omega
  have hd := dec_bd p5 b5.1 (by omega)
  have hd2 : ¬ 9223372036854775807 < (Lib.itoa p5).length + 2 := by omega
  obtain ⟨T, hT, hTl⟩ : ∃ T : List UInt8, (⟨(Lib.itoa p5).toArray⟩ : ByteArray) ++ ⟨#[UInt8.ofNat (p6 % 256).toNat, UInt8.ofNat (p7 % 256).toNat]⟩ = ⟨T.toArray⟩ ∧ T.length ≤ 12 :=
    ⟨Lib.itoa p5 ++ [UInt8.ofNat (p6 % 256).toNat, UInt8.ofNat (p7 % 256).toNat], bytes_append _ [_, _], by simp; omega⟩
  have hk := conv_two (p6 % 256) (p7 % 256) q6 q7
  have hk2 := conv_two_drew (p6 % 256) (p7 % 256) q6 q7
  have HC1 := Lib.hid (dec_call p5 p6 p7 g o W w1 w1.drew hb1 (Below.refl _ _).drew ⟨by omega, by omega⟩ HP.out hg c5 c6 c7)
  have HC2 := Lib.hid (dec_call p5 p6 p7 g o W w1 (w1.alloc (.cells #[.int .u8 (p6 % 256), .int .u8 (p7 % 256)] 5)).drew hb1 ((Below.refl _ _).alloc (Nat.le_refl _) _).drew ⟨by omega, by omega⟩ HP.out hg c5 c6 c7)
  have HK := Lib.hid (conv_at (p6 % 256) (p7 % 256) q6 q7)
  go_cut [4] (fun s4 wx => s4 = .string ⟨T.toArray⟩ ∧ Below w1.heap.size w1 wx)
  case first =>
    go_region_law (go_simp; go_at_call 20; first | ((with_reducible refine HC1.out.mono ?_); rintro e w2 ⟨rfl, h12, h02, d5, d6, d7⟩) | ((with_reducible refine HC2.out.mono ?_); rintro e w2 ⟨rfl, h12, h02, d5, d6, d7⟩; have cv := HK.out w2 w1.heap.size ((h02.block w1.heap.size (by simp)).trans (heap_alloc_new w1 _))))
    all_goals
      go_wp2_with fail
      go_meet
      exact ⟨rfl, by first | exact h12 | exact h12.alloc h12.size _⟩
  case rest =>
    obtain ⟨rfl, hb2⟩ := hcut
    have hbW := hb1.trans (hb2.mono hb1.size)
    have d0 : wc.cell? ⟨g, o, none⟩ = some (.int .i64 p0) := (hb2.cell (p := ⟨g, o, none⟩) hg).trans c0
    have d1 : wc.cell? ⟨g, o + 1, none⟩ = some (.int .i64 p1) := (hb2.cell (p := ⟨g, o + 1, none⟩) hg).trans c1
    have d2 : wc.cell? ⟨g, o + 2, none⟩ = some (.int .i64 p2) := (hb2.cell (p := ⟨g, o + 2, none⟩) hg).trans c2
    have d3 : wc.cell? ⟨g, o + 3, none⟩ = some (.int .i64 p3) := (hb2.cell (p := ⟨g, o + 3, none⟩) hg).trans c3
    have d4 : wc.cell? ⟨g, o + 4, none⟩ = some (.int .i64 p4) := (hb2.cell (p := ⟨g, o + 4, none⟩) hg).trans c4
    have hgc : g < wc.heap.size := Nat.lt_of_lt_of_le hg hb2.size
    clear c0 c1 c2 c3 c4 c5 c6 c7 k6 k7 q6 q7 hd hd2 hT hk hk2 HC1 HC2 HK b5 b6 b7 hb2 hg hb1
    have hTs : (⟨T.toArray⟩ : ByteArray).size ≤ 20000 := by show T.toArray.size ≤ 20000; rw [List.size_toArray]; omega
    have HX := Lib.hid (fun w => hex.impl_small ⟨T.toArray⟩ w hTs)
    have HU := Lib.hid (fun w => unhex.impl_any ⟨(hex.hexL T).toArray⟩ w (by show (hex.hexL T).toArray.size ≤ _; rw [List.size_toArray, hex.hexL_length]; unfold maxLen; omega))
    have HBk := Lib.hid (hexback.back T (by omega))
    clear hTs
    go_wp2_with fail
    refine (HX.out _).mono ?_
    rintro e w3 ⟨rfl, hb3⟩
    go_wp2_with fail
    refine (HU.out _).mono ?_
    rw [HBk.out]
    rintro e w4 ⟨rfl, hb4⟩
    go_wp2_with fail
    have hb34 : Below wc.heap.size wc w4 := hb3.trans (hb4.mono hb3.size)
    have hbW4 := hbW.trans (hb34.mono hbW.size)
    have f0 : w4.cell? ⟨g, o, none⟩ = some (.int .i64 p0) := (hb34.cell (p := ⟨g, o, none⟩) hgc).trans d0
    have f1 : w4.cell? ⟨g, o + 1, none⟩ = some (.int .i64 p1) := (hb34.cell (p := ⟨g, o + 1, none⟩) hgc).trans d1
    have f2 : w4.cell? ⟨g, o + 2, none⟩ = some (.int .i64 p2) := (hb34.cell (p := ⟨g, o + 2, none⟩) hgc).trans d2
    have f3 : w4.cell? ⟨g, o + 3, none⟩ = some (.int .i64 p3) := (hb34.cell (p := ⟨g, o + 3, none⟩) hgc).trans d3
    have f4 : w4.cell? ⟨g, o + 4, none⟩ = some (.int .i64 p4) := (hb34.cell (p := ⟨g, o + 4, none⟩) hgc).trans d4
    have hg4 : g < w4.heap.size := Nat.lt_of_lt_of_le hgc hb34.size
    clear HX HU HBk d0 d1 d2 d3 d4 hb34 hb3 hb4 hgc hbW
    have e1 : IntKind.i64.wrap (p0 * 10000) = p0 * 10000 := IntWalk.i64_in _ (by omega)
    have e2 : IntKind.i64.wrap (p0 * 10000 + p1) = p0 * 10000 + p1 := IntWalk.i64_in _ (by omega)
    go_quiet (fail)
    clear e1 e2
    have hn : 0 ≤ p0 * 10000 + p1 ∧ p0 * 10000 + p1 ≤ 1000000000 := by omega
    generalize p0 * 10000 + p1 = n at hn ⊢
    have HPd := Lib.hid (fun w hb => decimal.impl_any n w (by omega) (by omega) (HP.out.below hb))
    have HPr := Lib.hid (fun w hb => read_back n hn.1 hn.2 w (HP.out.below hb))
    go_wp2_with fail
    refine (HPd.out _ (below_drewN hbW4 _)).mono ?_
    rintro e w5 ⟨rfl, hb5⟩
    go_wp2_with fail
    refine (HPr.out _ (below_drewN hbW4 _ |>.trans (hb5.mono hbW4.size))).mono ?_
    rintro e w6 ⟨rfl, hb6⟩
    have hb46 : Below w4.heap.size w4 w6 := (below_drewN (Below.refl _ _) _).trans (hb5.trans (hb6.mono hb5.size))
    have k2 : w6.cell? ⟨g, o + 2, none⟩ = some (.int .i64 p2) := (hb46.cell (p := ⟨g, o + 2, none⟩) hg4).trans f2
    have k3 : w6.cell? ⟨g, o + 3, none⟩ = some (.int .i64 p3) := (hb46.cell (p := ⟨g, o + 3, none⟩) hg4).trans f3
    have k4 : w6.cell? ⟨g, o + 4, none⟩ = some (.int .i64 p4) := (hb46.cell (p := ⟨g, o + 4, none⟩) hg4).trans f4
    have HbW6 := Lib.hid (hbW4.trans (hb46.mono hbW4.size))
    clear HPd HPr f0 f1 f2 f3 f4 hb46 hb5 hb6 hg4 hbW4
    go_wp2_with fail
    have e1 : IntKind.i64.wrap (p2 - 5000) = p2 - 5000 := IntWalk.i64_in _ (by omega)
    have e2 : IntKind.i64.wrap (-p3) = -p3 := IntWalk.i64_in _ (by omega)
    go_quiet ((go_at_call 23; exact Calls.quiet_of_same ((brought.impl_any _ _ _ _).mono fun _ _ h => ⟨h.1, h.2.symm⟩)))
    have m3 : (w6.drewN nq).cell? ⟨g, o + 3, none⟩ = some (.int .i64 p3) := k3
    have m4 : (w6.drewN nq).cell? ⟨g, o + 4, none⟩ = some (.int .i64 p4) := k4
    have HbW7 := Lib.hid (below_drewN HbW6.out nq)
    generalize w6.drewN nq = w7 at m3 m4 HbW7 ⊢
    clear k2 k3 k4 HbW6
    have hbb := bro_bd (p2 - 5000) (-p3) p4 (by omega)
    generalize brought.bro (p2 - 5000) (-p3) p4 = b at hbb ⊢
    have hmid := bro_mid b (-p3) p4 hbb.1 hbb.2
    have hlen := hex.hexL_length T
    have ew : IntKind.i64.wrap (2 * (T.length : Int)) = 2 * (T.length : Int) := IntWalk.i64_in _ (by omega)
    have e2' : IntKind.i64.wrap (-p3) = -p3 := IntWalk.i64_in _ (by omega)
    go_wp2_with fail
    go_quiet ((go_at_call 23; exact Calls.quiet_of_same ((brought.impl_any _ _ _ _).mono fun _ _ h => ⟨h.1, h.2.symm⟩)))
    go_wp2_with fail
    go_ret
    exact ⟨rfl, below_drewN HbW7.out _⟩
end Go.Proofs.YtmknkpoihnpnkaaDoor.fnFigures
