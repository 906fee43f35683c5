/- FnSigns: for every byte slice the law returns true. -/
import Derived.Test.YtlnfbpdicjcpgaaGreatDoorDrawTreeD
import Derived.Test.YtlnfbpdicjcpgaaGreatDoorSayT
import Derived.Test.YtlnfbpdicjcpgaaGreatDoorGTok
import Derived.Test.YtlnfbpdicjcpgaaGreatDoorSignsS
import Derived.Test.YtlnfbpdicjcpgaaGreatDoorSignsI
import Derived.Test.YtlnfbpdicjcpgaaGreatDoorSameSg
namespace Go.Proofs.YtlnfbpdicjcpgaaGreatDoor.fnSigns
open Go.ChangeShapes Go.WideShapes Go.ChangeAt Go.RowKit
open tree sign
set_option linter.unusedVariables false

/-- What the walk knows of the text and its signs. -/
structure Known (t : T) (s : ByteArray) (L : List tok.P2) (l l2 : List Sg) (n : Nat) : Prop where
  len : L.length = n
  len1 : l.length = n
  len2 : l2.length = n
  pos : 1 ≤ n
  few : n ≤ 425
  size : s.size ≤ 6722
  all : allF s = (l, f0)
  all2 : allF (tok.again L n ++ ⟨#[13]⟩) = (l2, f0)
  get : ∀ i (h : i < L.length), l[i]? = some { L[i].1 with at_ := (tok.off L i : Int) }
  get2 : ∀ i (h : i < L.length), ∃ a : Int, l2[i]? = some { L[i].1 with at_ := a }
  next : ∀ i, i < L.length → tok.off L i ≤ tok.off L (i + 1)
  most : ∀ i, tok.off L i ≤ s.size
  last : tok.off L n = s.size
  tell : ∀ i, i < L.length → tok.again L i ++ ⟨#[32, 10, 9]⟩ ++ s.extract (tok.off L i) (tok.off L (i + 1)) = tok.again L (i + 1)
  told : ∀ i, i ≤ n → (tok.again L i).size ≤ 7997
  first : ∃ (h : 0 < L.length) (k : Nat), 0 < k ∧ signF s 0 = ({ L[0].1 with at_ := 0 }, (k : Int))
theorem known {t : T} (good : tree.Good 3 t) (hn : say.Nums t) : Known t (tok.textB t) (tok.tk t) (tok.sgA t) (tok.sgB t) (tok.tk t).length := by
  have hs := good.shape
  have hz := good.told
  have hk : tree.size t ≤ 85 := by have := good.size; simpa [cap] using this
  have hsz := tok.textB_size t
  have he := tok.tk_say t hs
  have hd : (tok.textB t).data.toList = tok.fl2 (tok.tk t) := by rw [he]; rfl
  have hfl : (tok.fl2 (tok.tk t)).length = (tok.textB t).size := by rw [he, hsz]
  have hlen := tok.tk_len t hs
  refine ⟨rfl, tok.sgA_length t, tok.sgB_length t, tok.tk_pos t hs, by omega, by omega, ?_, ?_, fun i h => tok.sgA_get t i h, fun i h => tok.sgB_get t i h, fun i h => tok.off_le _ i h, fun i => ?_, ?_, fun i h => tok.again_next _ i h _ hd, fun i hi => ?_, ?_⟩
  · exact tok.textB_signs hs hn (by omega)
  · exact tok.again_signs hs hn hz hk
  · rw [← hfl]; exact tok.off_end _ i
  · rw [← hfl]; exact tok.off_all _
  · have h1 := tok.again_size (tok.tk t) i
    have h2 := tok.off_end (tok.tk t) i
    omega
  · obtain ⟨h, k, h1, h2, h3⟩ := tok.sg_first hs hn
    refine ⟨h, k, h1, ?_⟩
    have h4 := sign_in (s := tok.textB t) (a := 0) h3
    rw [show ((0 : Nat) : Int) = 0 from rfl] at h4
    rw [h4, h2]
theorem get_of {l : List Sg} {i : Nat} {x : Sg} (h : l[i]? = some x) (hi : i < l.length) : l[i] = x := by
  rw [List.getElem?_eq_getElem hi] at h
  injection h

set_option maxRecDepth 1000000 in
set_option maxHeartbeats 16000000 in
theorem walk (A : Option Addr) (len cap : Nat) (zs : List Int) (W : World) (hr : IsRow .u8 W A len cap zs) (hT : rune.Tabs W) (hRg : whole.ErrVar W "strconv.ErrRange") (hE : readq.ErrVar W "strconv.ErrSyntax") :
    Calls Tryz.prog 3 #[.slice A len cap] W fun e w' => e = .returned (.bool true) ∧ Below W.heap.size W w' := by
  have hm := hr.le
  have hB := Lib.hid (lawBig.any A len cap W hm)
  unfold maxLen at hm
  by_cases h1 : 1048576 < len
  · clear hr
    go_enter Tryz.func3, Tryz.ntmps3
    go_wp2_with fail
    refine hB.out.mono ?_
    rintro e w1 ⟨rfl, rfl⟩
    go_wp2_with fail
    go_ret
    exact ⟨rfl, Below.refl _ _⟩
  have HD := Lib.hid (drawTree_any A len cap zs W hr (by omega))
  have HT0 := Lib.hid hT
  have HR0 := Lib.hid hRg
  have HE0 := Lib.hid hE
  clear hr hT hRg hE
  go_enter Tryz.func3, Tryz.ntmps3
  go_wp2_with fail
  refine hB.out.mono ?_
  rintro e w1 ⟨rfl, rfl⟩
  clear hB
  go_wp2_with fail
  refine HD.out.mono ?_
  clear HD
  rintro e w1 ⟨t, us, f, F, good, rfl, ho, hn, hb1⟩
  have hk0 := known good (say.lies_nums f t us w1 ho.lies)
  have hbr : say.bracedF t = tok.textB t := by
    rw [say.braced_yes (good.ok (Nat.le_refl _)), if_pos (by have := good.told; omega)]
    rfl
  have HT := Lib.hid (say.spec_braced f t us w1 ho.lies (by have := good.size; simp [tree.cap] at this; omega))
  rw [hbr] at HT
  generalize tok.textB t = s at HT hk0
  generalize tok.sgA t = l at hk0
  generalize tok.sgB t = l2 at hk0
  generalize tok.tk t = L at hk0
  obtain ⟨n, hn0⟩ : ∃ n, L.length = n := ⟨_, rfl⟩
  rw [hn0] at hk0
  have HK := Lib.hid hk0
  have hn1 := hk0.pos
  have hn2 := hk0.few
  have hs9 : s.size ≤ 1048576 := Nat.le_trans hk0.size (by omega)
  have hs8 := hk0.size
  have Hb1 := Lib.hid hb1
  clear ho hn hb1 good hbr hk0 hn0
  go_wp2_with fail
  refine HT.out.mono ?_
  rintro e w2 ⟨rfl, hb2⟩
  have Hb2 := Lib.hid (below_link Hb1.out hb2 Hb1.out.size)
  clear HT hb2 Hb1
  have H3 := Lib.hid (impl_signs s w2 hs9 (HT0.out.below Hb2.out) (HE0.out.below Hb2.out) (HR0.out.below Hb2.out))
  unfold Signs at H3
  rw [HK.out.all] at H3
  unfold fV fC f0 at H3
  simp only at H3
  go_wp2_with fail
  refine H3.out.mono ?_
  rintro e w3 ⟨v0, rfl, hown0, hb3⟩
  have hl1 := HK.out.len1
  rw [hl1] at hown0
  obtain ⟨A0, c0, rfl, hc0, hc0', hr0⟩ := own_rd hl1 hown0
  obtain ⟨V3, hV3⟩ : ∃ V, V = w3.alloc (.cells #[.int .i64 0, .int .i64 0, .string ⟨#[]⟩] 32) := ⟨_, rfl⟩
  have hB3 : Below w3.heap.size w3 V3 := by rw [hV3]; exact (Below.refl _ _).alloc (Nat.le_refl _) _
  have Hf3 := Lib.hid (show V3.heap[w3.heap.size]? = some (.cells #[.int .i64 0, .int .i64 0, .string ⟨#[]⟩] 32 (0, 0)) by rw [hV3]; exact heap_alloc_new w3 _)
  have Hr3 := Lib.hid (hr0.below hB3)
  have Hb3 := Lib.hid (below_link (below_link Hb2.out hb3 Hb2.out.size) hB3 (Nat.le_trans Hb2.out.size hb3.size))
  have HV3 := Lib.hid hV3
  have H4 := Lib.hid (spec_signs s V3 hs9)
  unfold Signs at H4
  rw [HK.out.all] at H4
  unfold fV fC f0 at H4
  simp only at H4
  clear H3 hown0 hb3 hr0 hB3 Hb2 hV3 hl1
  go_wp2_with fail
  rw [← HV3.out]
  refine H4.out.mono ?_
  rintro e w4 ⟨v1, rfl, hown1, hb4⟩
  have hl1 := HK.out.len1
  rw [hl1] at hown1
  obtain ⟨A1, c1, rfl, _, _, hr1⟩ := own_rd hl1 hown1
  obtain ⟨V4, hV4⟩ : ∃ V, V = w4.alloc (.cells #[.int .i64 0, .int .i64 0, .string ⟨#[]⟩] 32) := ⟨_, rfl⟩
  have hB4 : Below w4.heap.size w4 V4 := by rw [hV4]; exact (Below.refl _ _).alloc (Nat.le_refl _) _
  have hB34 := below_link hb4 hB4 hb4.size
  have Hf4 := Lib.hid (heap_kept hB34 (heap_lt Hf3.out) Hf3.out)
  have Hr4 := Lib.hid (Hr3.out.below hB34)
  have H5 := Lib.hid (lawSign.same_yes A0 A1 n c0 c1 l V4 (by omega) Hr4.out (hr1.below hB4))
  have Hb4 := Lib.hid (below_link Hb3.out hB34 Hb3.out.size)
  have HV4 := Lib.hid hV4
  clear H4 hown1 hb4 hr1 hB4 hB34 Hb3 hV4 hl1 Hf3 Hr3 HV3
  go_wp2_with fail
  rw [← HV4.out]
  refine H5.out.mono ?_
  rintro e w5 ⟨rfl, hb5⟩
  have Hf5 := Lib.hid (heap_kept hb5 (heap_lt Hf4.out) Hf4.out)
  have Hr5 := Lib.hid (Hr4.out.below hb5)
  have Hb5 := Lib.hid (below_link Hb4.out hb5 Hb4.out.size)
  clear H5 hb5 Hf4 Hr4 Hb4 HV4
  unfold maxLen at hc0'
  go_wp2_with fail
  go_loopw [8, 9] (fun a i wr => ∃ k : Nat, k ≤ n ∧ i = .int .i64 k ∧ a = .string (tok.again L k) ∧ w5 = wr) (fun _ i _ => n - (intOf i).toNat)
  case atStart => exact ⟨0, Nat.zero_le _, rfl, rfl, rfl⟩
  case round =>
    obtain ⟨k, hk, rfl, rfl, rfl⟩ := hrel
    have hLn := HK.out.len
    have hl1 := HK.out.len1
    have hz := HK.out.told k hk
    obtain ⟨g, o, rfl, hg, hc⟩ := Hr5.out.2 (by omega)
    by_cases hlt : k < n
    · have q := (hc k (by omega)).2.2.2
      have e1 := get_of (HK.out.get k (by omega)) (by omega)
      rw [e1] at q
      have hx := HK.out.next k (by omega)
      have hy := HK.out.most (k + 1)
      have Ht := Lib.hid (HK.out.tell k (by omega))
      have hxs : (s.extract (tok.off L k) (tok.off L (k + 1))).size ≤ 6722 := by rw [ByteArray.size_extract]; omega
      simp only at q
      by_cases hl : k + 1 < n
      · have r := (hc (k + 1) (by omega)).2.2.2
        have e2 := get_of (HK.out.get (k + 1) (by omega)) (by omega)
        rw [e2] at r
        simp only at r
        generalize tok.off L k = a at *
        generalize tok.off L (k + 1) = b at *
        clear hc e1 e2 hl1 hLn
        go_wp2_with fail
        go_roundw
        case rel => exact ⟨k + 1, by omega, by go_num, by rw [← Ht.out], trivial⟩
        case measure => simp [intOf]; omega
      · have hlast : tok.off L (k + 1) = s.size := by rw [show k + 1 = n by omega]; exact HK.out.last
        rw [hlast] at Ht hxs hx
        generalize tok.off L k = a at *
        clear hc e1 hl1 hLn hlast hy
        go_wp2_with fail
        go_roundw
        case rel => exact ⟨k + 1, by omega, by go_num, by rw [← Ht.out], trivial⟩
        case measure => simp [intOf]; omega
    · obtain rfl : k = n := by omega
      have H6 := Lib.hid (impl_signs (tok.again L k ++ ⟨#[13]⟩) w5 (by rw [ByteArray.size_append]; have e : (⟨#[13]⟩ : ByteArray).size = 1 := rfl; omega) (HT0.out.below Hb5.out) (HE0.out.below Hb5.out) (HR0.out.below Hb5.out))
      unfold Signs at H6
      rw [HK.out.all2] at H6
      unfold fV fC f0 at H6
      simp only at H6
      clear hc hl1 hLn hg
      go_wp2_with fail
      refine H6.out.mono ?_
      rintro e w6 ⟨v2, rfl, hown2, hb6⟩
      have hl2 := HK.out.len2
      rw [hl2] at hown2
      obtain ⟨A2, c2, rfl, hc2, hc2', hr2⟩ := own_rd hl2 hown2
      unfold maxLen at hc2'
      obtain ⟨V6, hV6⟩ : ∃ V, V = w6.alloc (.cells #[.int .i64 0, .int .i64 0, .string ⟨#[]⟩] 32) := ⟨_, rfl⟩
      have hB6 : Below w6.heap.size w6 V6 := by rw [hV6]; exact (Below.refl _ _).alloc (Nat.le_refl _) _
      have hB56 := below_link hb6 hB6 hb6.size
      have hf6 := heap_kept hB56 (heap_lt Hf5.out) Hf5.out
      have hf7 : V6.heap[w6.heap.size]? = some (.cells #[.int .i64 0, .int .i64 0, .string ⟨#[]⟩] 32 (0, 0)) := by rw [hV6]; exact heap_alloc_new w6 _
      have p0 : V6.cell? ⟨w3.heap.size, 0, none⟩ = some (.int .i64 0) := by rw [cell_of_row V6 _ 0 _ _ _ hf6]; rfl
      have p1 : V6.cell? ⟨w6.heap.size, 0, none⟩ = some (.int .i64 0) := by rw [cell_of_row V6 _ 0 _ _ _ hf7]; rfl
      have Hr6 := Lib.hid (Hr5.out.below hB56)
      have Hq6 := Lib.hid (hr2.below hB6)
      have Hb6 := Lib.hid (below_link Hb5.out hB56 Hb5.out.size)
      have HV6 := Lib.hid hV6
      rw [hV6] at p0 p1
      clear H6 hown2 hb6 hr2 hB6 hB56 hf6 hf7 hV6 hl2 Hf5 Hr5
      go_wp2_with fail
      rw [← HV6.out]
      clear HV6 p0 p1
      go_loopw [13] (fun i wr => ∃ j : Nat, j ≤ k ∧ i = .int .i64 j ∧ Below V6.heap.size V6 wr) (fun i _ => k - (intOf i).toNat)
      case atStart => exact ⟨0, Nat.zero_le _, rfl, Below.refl _ _⟩
      case round =>
        obtain ⟨j, hj, rfl, hbel⟩ := hrel
        have hszr := hbel.size
        have hLn := HK.out.len
        have hl1 := HK.out.len1
        have hl2 := HK.out.len2
        obtain ⟨ga, oa, e0, hga, hca⟩ := (Hr6.out.below hbel).2 (by omega)
        injection e0 with e0
        injection e0 with e1 e2 e3
        subst e1; subst e2
        by_cases hlt : j < k
        · obtain ⟨gb, ob, rfl, hgb, hcb⟩ := (Hq6.out.below hbel).2 (by omega)
          obtain ⟨q0, q1, q2, q3⟩ := hca j (by omega)
          obtain ⟨r0, r1, r2, r3⟩ := hcb j (by omega)
          rw [get_of (HK.out.get j (by omega)) (by omega)] at q0 q1 q2 q3
          obtain ⟨a, ha⟩ := HK.out.get2 j (by omega)
          rw [get_of ha (by omega)] at r0 r1 r2 r3
          generalize (L[j]'(by omega)).1 = x at q0 q1 q2 q3 r0 r1 r2 r3
          obtain ⟨xk, xt, xn, xa⟩ := x
          simp only at q0 q1 q2 q3 r0 r1 r2 r3
          generalize ((tok.off L j : Nat) : Int) = b at q3
          obtain ⟨wa, hwa⟩ : ∃ x, x = wr.alloc (.cells #[.int .i64 xk, .string xt, .int .i64 xn, .int .i64 a] 37) := ⟨_, rfl⟩
          have hba : Below wr.heap.size wr wa := by rw [hwa]; exact (Below.refl _ _).alloc (Nat.le_refl _) _
          have hra : wa.heap[wr.heap.size]? = some (.cells #[.int .i64 xk, .string xt, .int .i64 xn, .int .i64 a] 37 (0, 0)) := by rw [hwa]; exact heap_alloc_new wr _
          have a3 : wa.cell? ⟨g, o + j * 4 + 3, none⟩ = some (.int .i64 b) := (World.cell?_of_block (hba.block g hga)).trans q3
          have x3 : wa.cell? ⟨wr.heap.size, 3, none⟩ = some (.int .i64 a) := by rw [cell_of_row wa _ 3 _ _ _ hra]; rfl
          have f3 := frozen_of_row wa _ 3 _ _ hra
          obtain ⟨wb, hwb⟩ : ∃ x, x = wr.alloc (.cells #[.int .i64 xk, .string xt, .int .i64 xn, .int .i64 b] 37) := ⟨_, rfl⟩
          have hbb : Below wr.heap.size wr wb := by rw [hwb]; exact (Below.refl _ _).alloc (Nat.le_refl _) _
          have hrb : wb.heap[wr.heap.size]? = some (.cells #[.int .i64 xk, .string xt, .int .i64 xn, .int .i64 b] 37 (0, 0)) := by rw [hwb]; exact heap_alloc_new wr _
          have y0 : wb.cell? ⟨wr.heap.size, 0, none⟩ = some (.int .i64 xk) := by rw [cell_of_row wb _ 0 _ _ _ hrb]; rfl
          have y1 : wb.cell? ⟨wr.heap.size, 1, none⟩ = some (.string xt) := by rw [cell_of_row wb _ 1 _ _ _ hrb]; rfl
          have y2 : wb.cell? ⟨wr.heap.size, 2, none⟩ = some (.int .i64 xn) := by rw [cell_of_row wb _ 2 _ _ _ hrb]; rfl
          have y3 : wb.cell? ⟨wr.heap.size, 3, none⟩ = some (.int .i64 b) := by rw [cell_of_row wb _ 3 _ _ _ hrb]; rfl
          have z0 : wb.cell? ⟨g, o + j * 4, none⟩ = some (.int .i64 xk) := (World.cell?_of_block (hbb.block g hga)).trans q0
          have z1 : wb.cell? ⟨g, o + j * 4 + 1, none⟩ = some (.string xt) := (World.cell?_of_block (hbb.block g hga)).trans q1
          have z2 : wb.cell? ⟨g, o + j * 4 + 2, none⟩ = some (.int .i64 xn) := (World.cell?_of_block (hbb.block g hga)).trans q2
          have z3 : wb.cell? ⟨g, o + j * 4 + 3, none⟩ = some (.int .i64 b) := (World.cell?_of_block (hbb.block g hga)).trans q3
          have Hnext := Lib.hid (hbel.trans (hbb.mono hszr))
          have et : (xt.toList == xt.toList) = true := by simp
          have Hwb := Lib.hid hwb
          rw [hwa] at a3 x3 f3
          clear hca hcb ha hl1 hl2 hLn hra hrb hba hbb hwa hwb hbel e3
          go_wp2_with fail
          rw [← Hwb.out]
          clear a3 x3 f3 q0 q1 q2 q3 r0 r1 r2 r3 Hwb
          go_quiet (fail)
          clear y0 y1 y2 y3 z0 z1 z2 z3
          go_wp2_with fail
          go_roundw
          case rel => exact ⟨j + 1, by omega, by go_num, below_drewN Hnext.out _⟩
          case measure => simp [intOf]; omega
        · obtain rfl : j = k := by omega
          obtain ⟨h0, kk, hkk, hfirst⟩ := HK.out.first
          have HS := Lib.hid (impl_sign s 0 wr hs9 (HT0.out.below (below_link Hb6.out hbel Hb6.out.size)) (HE0.out.below (below_link Hb6.out hbel Hb6.out.size)) (HR0.out.below (below_link Hb6.out hbel Hb6.out.size)))
          rw [hfirst] at HS
          unfold sgR sgV sgC at HS
          obtain ⟨q0, q1, q2, q3⟩ := hca 0 (by omega)
          rw [get_of (HK.out.get 0 (by omega)) (by omega)] at q0 q1 q2 q3
          generalize (L[0]'(by omega)).1 = x at q0 q1 q2 q3 HS
          obtain ⟨xk, xt, xn, xa⟩ := x
          have ho : ((tok.off L 0 : Nat) : Int) = 0 := rfl
          rw [ho] at q3
          simp only [Nat.zero_mul, Nat.add_zero] at q0 q1 q2 q3 HS
          have hkk0 : (0 : Int) < (kk : Int) := by omega
          have Hbw := Lib.hid (below_link Hb6.out hbel Hb6.out.size)
          clear hca hl1 hl2 hLn hfirst hbel e3 ho
          go_wp2_with fail
          refine HS.out.mono ?_
          rintro e w8 ⟨rfl, hb8⟩
          obtain ⟨wc, hwc⟩ : ∃ x, x = w8.alloc (.cells #[.int .i64 xk, .string xt, .int .i64 xn, .int .i64 0] 37) := ⟨_, rfl⟩
          have hbc : Below w8.heap.size w8 wc := by rw [hwc]; exact (Below.refl _ _).alloc (Nat.le_refl _) _
          have hrc : wc.heap[w8.heap.size]? = some (.cells #[.int .i64 xk, .string xt, .int .i64 xn, .int .i64 0] 37 (0, 0)) := by rw [hwc]; exact heap_alloc_new w8 _
          have hb8c := below_link hb8 hbc hb8.size
          have y0 : wc.cell? ⟨w8.heap.size, 0, none⟩ = some (.int .i64 xk) := by rw [cell_of_row wc _ 0 _ _ _ hrc]; rfl
          have y1 : wc.cell? ⟨w8.heap.size, 1, none⟩ = some (.string xt) := by rw [cell_of_row wc _ 1 _ _ _ hrc]; rfl
          have y2 : wc.cell? ⟨w8.heap.size, 2, none⟩ = some (.int .i64 xn) := by rw [cell_of_row wc _ 2 _ _ _ hrc]; rfl
          have y3 : wc.cell? ⟨w8.heap.size, 3, none⟩ = some (.int .i64 0) := by rw [cell_of_row wc _ 3 _ _ _ hrc]; rfl
          have z0 : wc.cell? ⟨g, o, none⟩ = some (.int .i64 xk) := (World.cell?_of_block (hb8c.block g hga)).trans q0
          have z1 : wc.cell? ⟨g, o + 1, none⟩ = some (.string xt) := (World.cell?_of_block (hb8c.block g hga)).trans q1
          have z2 : wc.cell? ⟨g, o + 2, none⟩ = some (.int .i64 xn) := (World.cell?_of_block (hb8c.block g hga)).trans q2
          have z3 : wc.cell? ⟨g, o + 3, none⟩ = some (.int .i64 0) := (World.cell?_of_block (hb8c.block g hga)).trans q3
          have Hfin := Lib.hid (below_link Hbw.out hb8c Hbw.out.size)
          have et : (xt.toList == xt.toList) = true := by simp
          have Hwc := Lib.hid hwc
          clear HS hb8 hbc hrc hb8c q0 q1 q2 q3 hwc
          go_wp2_with fail
          rw [← Hwc.out]
          clear Hwc
          go_quiet (fail)
          clear y0 y1 y2 y3 z0 z1 z2 z3
          go_wp2_with fail
          go_ret
          exact ⟨rfl, below_drewN Hfin.out _⟩
end Go.Proofs.YtlnfbpdicjcpgaaGreatDoor.fnSigns
