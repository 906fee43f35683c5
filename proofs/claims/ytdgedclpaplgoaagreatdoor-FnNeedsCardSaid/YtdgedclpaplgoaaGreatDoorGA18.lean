/- Merged: FnNeedsW RotV. -/
import Derived.Test.YtdgedclpaplgoaaGreatDoorGA11
import Derived.Test.YtdgedclpaplgoaaGreatDoorGA12
import Derived.Test.YtdgedclpaplgoaaGreatDoorGA17
import Derived.Test.YtdgedclpaplgoaaGreatDoorSortNS
import Derived.Test.YtdgedclpaplgoaaGreatDoorGA9
import Derived.Test.YtdgedclpaplgoaaGreatDoorGA3
import Derived.Test.YtdgedclpaplgoaaGreatDoorDrawNx
import Derived.Test.YtdgedclpaplgoaaGreatDoorValsS
namespace Go.Proofs.YtdgedclpaplgoaaGreatDoor.fnNeeds
open Go.ChangeShapes Go.WideShapes Go.ChangeAt Go.RowKit
open lab ty draw need dedup
set_option linter.unusedVariables false

theorem same_self (l : List Need) : yes (SameNP l l) = true := yes_t (sameNP_iff.2 rfl)
theorem has_a : NeedP ⟨⟨#[97]⟩, 3, []⟩ := ⟨⟨by decide, by decide, by decide, by decide, by decide⟩, by decide, by decide, fun _ => rfl, fun h => absurd h (by decide)⟩
theorem line_a : lineN ⟨⟨#[97]⟩, 3, []⟩ = ⟨#[97, 32, 104, 97, 115]⟩ := by
  rw [lineN_yes has_a]
  rfl
theorem lies_a (w : World) : LiesS w 1 [.string ⟨#[97]⟩, .int .i64 3, .slice none 0 0] (Need.row ⟨⟨#[97]⟩, 3, []⟩) := by
  refine ⟨rfl, fun m u d hu hd => ?_⟩
  rcases m with _ | _ | _ | m
  · injection hu with hu; injection hd with hd; subst hu hd; exact ⟨rfl, by unfold maxLen; decide⟩
  · injection hu with hu; injection hd with hd; subst hu hd; exact ⟨rfl, by decide⟩
  · injection hu with hu; injection hd with hd; subst hu hd
    exact ⟨none, 0, rfl, Nat.le_refl _, by unfold maxLen; omega, rfl, fun h => absurd h (by simp)⟩
  · simp at hu
theorem wts_back {l : List Need} (h : TinyL 45 5 l) : l.reverse.length + wsum Need.wt l.reverse ≤ 1048576 := by
  have h2 : TinyL 45 5 l.reverse := ⟨by rw [List.length_reverse]; exact h.1, fun x hx => h.2 x (List.mem_reverse.1 hx)⟩
  exact h2.wts (by omega) (by omega)
set_option maxRecDepth 1000000 in
set_option maxHeartbeats 16000000 in
theorem walk_given (A : Option Addr) (len cap : Nat) (W : World) (hm : len ≤ maxLen)
    (hD : len ≤ 1048576 → Calls Tryz.prog 7 #[.slice A len cap] W fun e w' => NeedsDrawn W e w') :
    Calls Tryz.prog 3 #[.slice A len cap] W fun e w' => e = .returned (.bool true) ∧ Below W.heap.size W w' := by
  have hB := Lib.hid (lawBig.any A len cap W hm)
  unfold maxLen at hm
  by_cases h1 : 1048576 < len
  · clear hD
    go_enter Tryz.func3, Tryz.ntmps3
    go_wp2_with fail
    refine hB.out.mono ?_
    rintro e w1 ⟨rfl, rfl⟩
    go_wp2_with fail
    go_ret
    exact ⟨rfl, Below.refl _ _⟩
  obtain ⟨i0, hi, hz0, hz1, hz2⟩ := info_parts TryzinfoNeed
  have HD := Lib.hid (hD (by omega))
  clear hD
  go_enter Tryz.func3, Tryz.ntmps3
  go_wp2_with fail
  refine hB.out.mono ?_
  rintro e w1 ⟨rfl, rfl⟩
  clear hB
  go_wp2_with fail
  refine HD.out.mono ?_
  clear HD
  rintro e w1 ⟨l, v, f, F, ht, rfl, ho, hb1⟩
  obtain ⟨A1, c1, rfl, _⟩ := els_of Need.row_length ho.lies
  have L1 := Lib.hid (fun w (hb : Below w1.heap.size w1 w) => ho.lies.below hb)
  have hwl := ht.wts (by omega) (by omega)
  have HS := Lib.hid (fun w hb => impl_sortN l _ _ w (L1.out w hb) hwl)
  have HP := Lib.hid (fun w hb => spec_sortN l _ _ w (L1.out w hb) hwl)
  have Hb1 := Lib.hid hb1
  have Ht := Lib.hid ht
  clear ho hb1 ht hwl
  have HR : Hid (∃ r b, sortN l = (r, b) ∧ r.reverse.length + wsum Need.wt r.reverse ≤ 1048576 ∧ ((b = false ∧ r.length = l.length) ∨ (b = true ∧ SelP r ∧ sortN r.reverse = (r, true) ∧ r.length + wsum Need.wt r ≤ 1048576))) := by
    rcases sortN_cases l with hno | ⟨hyes, hP⟩
    · exact ⟨l, false, hno, wts_back Ht.out, .inl ⟨rfl, rfl⟩⟩
    · have h := tiny_sorted Ht.out (by rw [hyes])
      rw [hyes] at h
      exact ⟨outN l, true, hyes, wts_back (h.more (by omega) (Nat.le_refl _)), .inr ⟨rfl, hP, back_sort hP, h.wts (by omega) (by omega)⟩⟩
  obtain ⟨r, b, hrb, hwr, hcase⟩ := HR.out
  rw [hrb] at HS HP
  have Hcase := Lib.hid hcase
  have Hwr := Lib.hid hwr
  clear hrb hcase hwr HR
  go_wp2_with fail
  refine (HS.out w1 (Below.refl _ _)).mono ?_
  rintro e w2 ⟨v2, f2, F2, rfl, o2, _, hb2⟩
  obtain ⟨A2, c2, rfl, _⟩ := els_of Need.row_length o2.lies
  have L2 := Lib.hid (fun w (hb : Below w2.heap.size w2 w) => o2.lies.below hb)
  have HP2 := Lib.hid (HP.out w2 hb2)
  have Hb2 := Lib.hid hb2
  clear HS HP o2 hb2
  go_wp2_with fail
  refine HP2.out.mono ?_
  rintro e w3 ⟨v3, f3, F3, rfl, o3, _, hb3⟩
  have HQ := Lib.hid (spec_sameN r r _ _ _ v3 w3 (L2.out w3 hb3) o3.lies)
  rw [same_self] at HQ
  have L23 := Lib.hid (fun w (hb : Below w3.heap.size w3 w) => L2.out w (hb3.trans (hb.mono hb3.size)))
  have Hb3 := Lib.hid (Hb1.out.trans ((Hb2.out.trans (hb3.mono Hb2.out.size)).mono Hb1.out.size))
  clear HP2 o3 hb3 Hb2 L1 L2 Hb1
  go_wp2_with fail
  refine HQ.out.mono ?_
  rintro e w4 ⟨rfl, hb4⟩
  have L24 := Lib.hid (fun w (hb : Below w4.heap.size w4 w) => L23.out w (hb4.trans (hb.mono hb4.size)))
  have HW4 := Lib.hid (Hb3.out.trans (hb4.mono Hb3.out.size))
  obtain ⟨_, _, hA, _, hcm, fe, _, hk⟩ := els_of Need.row_length (L24.out w4 (Below.refl _ _))
  injection hA with a1 _ a3
  subst a1 a3
  unfold maxLen at hcm
  have hr20 : r.length ≤ 1048576 := by have := Hwr.out; rw [List.length_reverse] at this; omega
  have Hk := Lib.hid hk
  have Hown0 := Lib.hid (show (w4.alloc (.cells #[] 31)).ownsRow w4.heap.size 31 3 (.slice (some ⟨w4.heap.size, 0, none⟩) 0 0) 0 [] from World.ownsRow_lit w4 #[] 0 (Nat.le_refl _) (by simp [maxLen]) rfl)
  clear HQ hb4 L23 Hb3 hk
  go_wp2_with fail
  go_loopw [8, 9] (fun vo i wr => ∃ (j : Nat) (x : Int) (xs : List Value), x + 1 = (j : Int) ∧ j ≤ r.length ∧ i = .int .i64 x ∧ wr.ownsRow w4.heap.size 31 3 vo (r.length - j) xs ∧ LiesS w4 fe xs ((r.drop j).reverse.flatMap Need.row) ∧ Below w4.heap.size w4 wr) (fun _ i _ => (intOf i + 1).toNat)
  case atStart => exact ⟨r.length, (r.length : Int) - 1, [], by omega, Nat.le_refl _, by go_num, by rw [Nat.sub_self]; exact Hown0.out, by rw [List.drop_length]; exact LiesS.nil, (Below.refl _ _).alloc (Nat.le_refl _) _⟩
  case round =>
    clear Hown0
    obtain ⟨j, x, xs, hxj, hj, rfl, hown, hls, hbel⟩ := hrel
    obtain ⟨Ao, co, rfl⟩ := own_is_slice hown
    by_cases hx : 0 ≤ x
    · obtain ⟨m, rfl⟩ := Int.eq_ofNat_of_zero_le hx
      obtain rfl : j = m + 1 := by omega
      have hml : m < r.length := by omega
      obtain ⟨g, o, rfl, hg, us, hus, hc, hle⟩ := Hk.out.get hml
      obtain ⟨B2, d2, rfl, hwf, _⟩ := Need.opened hle
      have q0 : wr.cell? ⟨g, o + m * 3, none⟩ = some (.string r[m].key) := (World.cell?_of_block (hbel.block g hg)).trans (hc 0 _ rfl)
      have q1 : wr.cell? ⟨g, o + m * 3 + 1, none⟩ = some (.int .i64 r[m].op) := (World.cell?_of_block (hbel.block g hg)).trans (hc 1 _ rfl)
      have q2 : wr.cell? ⟨g, o + m * 3 + 2, none⟩ = some (.slice B2 r[m].values.length d2) := (World.cell?_of_block (hbel.block g hg)).trans (hc 2 _ rfl)
      have Hrev := Lib.hid (show (r.drop m).reverse.flatMap Need.row = (r.drop (m + 1)).reverse.flatMap Need.row ++ (r[m]).row by rw [dropN_rev hml, rows_snoc])
      have Hown := Lib.hid hown
      have Hls := Lib.hid hls
      have Hle := Lib.hid hle
      have Hbel := Lib.hid hbel
      have hsz := hbel.size
      have hm0 : (0 : Int) ≤ (m : Int) := by omega
      have hm1 : (m : Int) < (r.length : Int) := by omega
      clear hown hls hle hbel hx hxj hc hus hwf hg
      generalize r[m] = y at q0 q1 q2 Hrev Hle
      obtain ⟨yk, yo, yv⟩ := y
      simp only at q0 q1 q2
      go_wp2_with (first | (at_builtin; refine wpList_append_rdk rfl (.tmp 44) (.tmp 49) 24 rfl w4.heap.size 31 i0 _ 3 48 Tryz.underlying24 hi hz0 hz1 hz2 rfl (by decide) _ (r.length - (m + 1)) _ rfl (own_below' Hown.out ((Below.refl _ _).alloc (Nat.le_refl _) _)) (some ⟨wr.heap.size, 0, none⟩) 1 1 [.string yk, .int .i64 yo, .slice B2 yv.length d2] rfl (rdkN_lit wr _ _ _) (by intro u hu; simp at hu; rcases hu with rfl | rfl | rfl <;> rfl) (by unfold maxLen; omega) (by omega) (by simp; omega) ?_) | fail)
      intro v5 w5 hown5 hg5 hat5
      have hb5 : Below w4.heap.size (wr.alloc (.cells #[.string yk, .int .i64 yo, .slice B2 yv.length d2] 31)) w5 := (Below.refl _ _).grown hg5 (by simp; omega) (fun b hb => (Hown.out.lt b hb).1)
      have en : r.length - (m + 1) + 1 = r.length - m := by omega
      rw [en] at hown5
      have Hown5 := Lib.hid hown5
      have Hls5 := Lib.hid (liesS_app Hls.out Hle.out)
      have Hb5 := Lib.hid (((Hbel.out).alloc hsz (.cells #[.string yk, .int .i64 yo, .slice B2 yv.length d2] 31)).trans hb5)
      clear hown5 hg5 hat5 hb5 en
      go_wp2_with fail
      go_roundw
      case rel => exact ⟨m, (m : Int) - 1, _, by omega, by omega, by go_num, Hown5.out, by rw [Hrev.out]; exact Hls5.out, Hb5.out⟩
      case measure => simp [intOf] <;> omega
    · obtain rfl : j = 0 := by omega
      rw [List.drop_zero] at hls
      rw [Nat.sub_zero] at hown
      have hlr : r.reverse.length = r.length := List.length_reverse
      have hLb := lies_own hown (hls.below hbel)
      rw [← hlr] at hLb
      have HSb := Lib.hid (impl_sortN r.reverse _ _ wr hLb Hwr.out)
      rw [hlr] at HSb
      have L2r := Lib.hid (fun w (hb : Below wr.heap.size wr w) => L24.out w (below_link hbel hb hbel.size))
      have HWr := Lib.hid (below_link HW4.out hbel HW4.out.size)
      have Hks := Lib.hid (fun w (hb : Below wr.heap.size wr w) => Hk.out.below (below_link hbel hb hbel.size))
      clear hown hls hbel hLb hlr Hk HW4 L24 Hwr hx
      rcases Hcase.out with ⟨rfl, hlen⟩ | ⟨rfl, hP, hbk, hwr⟩
      · have Hlen := Lib.hid hlen
        clear Hcase Hks L2r hlen
        generalize sortN r.reverse = q at HSb
        obtain ⟨q1, q2⟩ := q
        go_wp2_with fail
        refine HSb.out.mono ?_
        rintro e w6 ⟨v6, f6, F6, rfl, o6, _, hb6⟩
        have HLn := Lib.hid (impl_lineN ⟨⟨#[97]⟩, 3, []⟩ 1 [.string ⟨#[97]⟩, .int .i64 3, .slice none 0 0] w6 (lies_a w6) (by decide))
        rw [line_a] at HLn
        have HW6 := Lib.hid (below_link HWr.out hb6 HWr.out.size)
        have hli : (r.length : Int) = (l.length : Int) := by have := Hlen.out; omega
        clear HSb o6 hb6 HWr Hlen
        go_wp2_with fail
        refine HLn.out.mono ?_
        rintro e w7 ⟨rfl, hb7⟩
        have HW7 := Lib.hid (below_link HW6.out hb7 HW6.out.size)
        clear hb7 HW6 HLn
        go_wp2_with fail
        go_ret
        exact ⟨rfl, HW7.out⟩
      · rw [hbk] at HSb
        have HP := Lib.hid hP
        have Hwr := Lib.hid hwr
        clear Hcase hbk hP hwr
        go_wp2_with fail
        refine HSb.out.mono ?_
        rintro e w6 ⟨v6, f6, F6, rfl, o6, _, hb6⟩
        have L6 := Lib.hid (fun w (hb : Below w6.heap.size w6 w) => o6.lies.below hb)
        have L26 := Lib.hid (fun w (hb : Below w6.heap.size w6 w) => L2r.out w (below_link hb6 hb hb6.size))
        have Hk6 := Lib.hid (Hks.out w6 hb6)
        have HW6 := Lib.hid (below_link HWr.out hb6 HWr.out.size)
        clear HSb o6 hb6 HWr L2r Hks
        go_wp2_with fail
        go_loopw [12] (fun i wx => ∃ j : Nat, 1 ≤ j ∧ (j ≤ r.length ∨ j = 1) ∧ i = .int .i64 j ∧ Below w6.heap.size w6 wx) (fun i _ => r.length - (intOf i).toNat)
        case atStart => exact ⟨1, Nat.le_refl _, .inr rfl, rfl, Below.refl _ _⟩
        case round =>
          obtain ⟨j, hj1, hj2, rfl, hbel⟩ := hrel
          by_cases hlt : j < r.length
          · obtain ⟨m, hmj⟩ : ∃ m, m + 1 = j := ⟨j - 1, by omega⟩
            have hml : m < r.length := by omega
            obtain ⟨g, o, B2, d2, rfl, q0, q1, q2, hle⟩ := el_at Hk6.out hbel hlt
            obtain ⟨g', o', B3, d3, hA, r0, r1, r2, hle2⟩ := el_at Hk6.out hbel hml
            injection hA with hA
            injection hA with e1 e2
            subst e1 e2
            have hord := (HP.out.2 j hlt hlt).2 m hmj
            have HL := Lib.hid (fun p : BelowBy wr => impl_less r[m] r[j] fe fe _ _ p.v (hle2 p) (hle p))
            have HL2 := Lib.hid (fun p : BelowBy wr => impl_less r[j] r[m] fe fe _ _ p.v (hle p) (hle2 p))
            rw [hord] at HL
            rw [lessN_asym hord] at HL2
            have hmi : (j : Int) - 1 = (m : Int) := by omega
            have hwm : IntKind.i64.wrap (m : Int) = (m : Int) := IntWalk.i64_in _ (by omega)
            have hm0 : (0 : Int) ≤ (m : Int) := by omega
            have hm1 : (m : Int) < (r.length : Int) := by omega
            have hj0 : (0 : Int) ≤ (j : Int) := by omega
            have hjn : (j : Int) < (r.length : Int) := by omega
            have HX := Lib.hid (fun p : BelowBy wr => below_link hbel p.h hbel.size)
            clear hle hle2 hord hmj hbel
            generalize r[m] = y at *
            generalize r[j] = z at *
            go_wp2_with fail
            refine wp_region_quiet_below (by kernel_rfl) (by kernel_rfl) ?_
            repeat (refine @wpQuiet_step _ _ _ _ _ _ _ ?_; intro K hK; go_simp; refine hK _ ?_; clear hK K)
            (refine @wpQuiet_step _ _ _ _ _ _ _ ?_; intro K hK; go_simp; apply Exists.intro; refine ⟨fun _ => ?_, hK _ ?_⟩; (go_at_call 12; exact Calls.below_of (HL.out _)); clear hK K)
            repeat (refine @wpQuiet_step _ _ _ _ _ _ _ ?_; intro K hK; go_simp; refine hK _ ?_; clear hK K)
            (refine @wpQuiet_step _ _ _ _ _ _ _ ?_; intro K hK; go_simp; apply Exists.intro; refine ⟨fun _ => ?_, hK _ ?_⟩; (go_at_call 12; exact Calls.below_of (HL2.out _)); clear hK K)
            repeat (refine @wpQuiet_step _ _ _ _ _ _ _ ?_; intro K hK; go_simp; refine hK _ ?_; clear hK K)
            refine wpQuiet_nil ?_
            intro _ hw'
            obtain ⟨p, rfl⟩ := hw'
            go_wp2_with fail
            go_roundw
            case rel => exact ⟨j + 1, by omega, by omega, by go_num, HX.out p⟩
            case measure => simp [intOf]; omega
          · have hnl : ¬ (j : Int) < (r.length : Int) := by omega
            have HO := Lib.hid (impl_sel r _ _ wr (L26.out wr hbel) Hwr.out)
            rw [yes_t HP.out] at HO
            have Hbel := Lib.hid hbel
            clear hbel hlt hj1 hj2
            go_wp2_with fail
            refine HO.out.mono ?_
            rintro e w7 ⟨rfl, hb7⟩
            have Hb7 := Lib.hid (below_link Hbel.out hb7 Hbel.out.size)
            have HQ := Lib.hid (impl_sameN r r _ _ _ _ w7 (L6.out w7 Hb7.out) (L26.out w7 Hb7.out))
            rw [same_self] at HQ
            clear hb7 HO Hbel
            go_wp2_with fail
            refine HQ.out.mono ?_
            rintro e w8 ⟨rfl, hb8⟩
            have HLn := Lib.hid (impl_lineN ⟨⟨#[97]⟩, 3, []⟩ 1 [.string ⟨#[97]⟩, .int .i64 3, .slice none 0 0] w8 (lies_a w8) (by decide))
            rw [line_a] at HLn
            have Hb8 := Lib.hid (below_link Hb7.out hb8 Hb7.out.size)
            clear hb8 HQ Hb7
            go_wp2_with fail
            refine HLn.out.mono ?_
            rintro e w9 ⟨rfl, hb9⟩
            have HW9 := Lib.hid (below_link HW6.out (below_link Hb8.out hb9 Hb8.out.size) HW6.out.size)
            clear hb9 HLn Hb8
            go_wp2_with fail
            go_ret
            exact ⟨rfl, HW9.out⟩
end Go.Proofs.YtdgedclpaplgoaaGreatDoor.fnNeeds
namespace Go.Proofs.YtdgedclpaplgoaaGreatDoor.draw
open Go.ChangeShapes Go.WideShapes Go.ChangeAt Go.RowKit ty lab need dedup
set_option linter.unusedVariables false

/-- Onto a new slice that is empty. -/
theorem rot_first {ops : Array Oper} {o : Oper} {a : Act} {X wd : World} {K : Act → World → Prop} {Q : Exit → Act → World → Prop} {E : Prop} (s t : Tmp)
    (hg : o.guard = none) (hop : o.op = Op.call { callee := Callee.builtin Builtin.append, args := #[.tmp s, .tmp t], argTypes := #[29, 29] })
    (b : Nat) (hs : a.eval (.tmp s) = .slice (some ⟨b, 0, none⟩) 0 0) (hX : Below wd.heap.size wd X) (hown : X.ownsRow wd.heap.size 9 1 (.slice (some ⟨b, 0, none⟩) 0 0) 0 [])
    (A : Option Addr) (k c : Nat) (news : List ByteArray) (hx : a.eval (.tmp t) = .slice A k c) (hr : RdK wd A k 1 (scells news)) (hk : k ≤ 64)
    (hK : ∀ v' w', w'.ownsRow wd.heap.size 9 1 v' k (scells news) → Below wd.heap.size wd w' → X.heap.size ≤ w'.heap.size → (∀ q, q < X.heap.size → q ≠ b → w'.heap[q]? = X.heap[q]?) → K (a.put o.dst v') w') :
    if Region.wanted o (yielded ops a.tmps) = true then Oper.wp Tryz.prog o a X K Q else E := by
  obtain ⟨i0, hi, hz0, hz1, hz2⟩ := info_parts TryzinfoStrV
  refine step_append_rdk hg (.tmp s) (.tmp t) 29 hop wd.heap.size 9 i0 _ 1 16 Tryz.underlying29 hi hz0 hz1 hz2 rfl (by decide) _ 0 [] hs hown A k c (scells news) hx (hr.below hX) (scells_ones _) (by unfold maxLen; omega) (by omega) hX.size ?_
  intro v' w' h1 h2 h3
  rw [Nat.zero_add, List.nil_append] at h1
  refine hK v' w' h1 (hX.grown h2 hX.size (fun q hq => (hown.lt q hq).1)) h2.size (fun q hq hb => h2.block q hq (fun e => hb (by simp [Value.ownBlock] at e; omega)))
/-- Two more. -/
theorem rot_second {ops : Array Oper} {o : Oper} {a : Act} {Y wd : World} {K : Act → World → Prop} {Q : Exit → Act → World → Prop} {E : Prop} (s t : Tmp)
    (hg : o.guard = none) (hop : o.op = Op.call { callee := Callee.builtin Builtin.append, args := #[.tmp s, .tmp t], argTypes := #[29, 29] })
    (v : Value) (k : Nat) (news : List ByteArray) (x : ByteArray) (hs : a.eval (.tmp s) = v) (hY : Below wd.heap.size wd Y) (hown : Y.ownsRow wd.heap.size 9 1 v k (scells news))
    (A : Option Addr) (hx : a.eval (.tmp t) = .slice A 2 2) (hr : RdK Y A 2 1 [.string x, .string x]) (hk : k ≤ 64)
    (hK : ∀ v' w', w'.ownsRow wd.heap.size 9 1 v' (k + 2) (scells (news ++ [x, x])) → Below wd.heap.size wd w' → K (a.put o.dst v') w') :
    if Region.wanted o (yielded ops a.tmps) = true then Oper.wp Tryz.prog o a Y K Q else E := by
  obtain ⟨i0, hi, hz0, hz1, hz2⟩ := info_parts TryzinfoStrV
  refine step_append_rdk hg (.tmp s) (.tmp t) 29 hop wd.heap.size 9 i0 _ 1 16 Tryz.underlying29 hi hz0 hz1 hz2 rfl (by decide) v k _ hs hown A 2 2 [.string x, .string x] hx hr (by intro u hu; simp at hu; rw [hu]; rfl) (by unfold maxLen; omega) (by omega) hY.size ?_
  intro v' w' h1 h2 h3
  rw [show [Value.string x, .string x] = scells [x, x] from rfl, ← scells_append] at h1
  exact hK v' w' h1 (hY.grown h2 hY.size (fun q hq => (hown.lt q hq).1))
theorem rdkW_row {w : World} {b : Nat} {x y : ByteArray} (h : w.heap[b]? = some (.cells #[.string x, .string y] 9 (0, 0))) : RdK w (some ⟨b, 0, none⟩) 2 1 [.string x, .string y] := by
  refine ⟨rfl, fun _ => ⟨b, 0, rfl, heap_lt h, fun j u hu => ?_⟩⟩
  rw [Nat.zero_add, cell_of_row _ _ _ _ _ _ h]
  simpa using hu
theorem rdkW2 {w w' : World} {o : Obj} {x y : ByteArray} (h : ∀ q, q < (((w.alloc o).alloc (.cells #[.string x, .string y] 9)).drew).heap.size → q ≠ w.heap.size → w'.heap[q]? = (((w.alloc o).alloc (.cells #[.string x, .string y] 9)).drew).heap[q]?) : RdK w' (some ⟨w.heap.size + 1, 0, none⟩) 2 1 [.string x, .string y] := by
  refine rdkW_row ((h _ (by show _ < ((w.alloc o).alloc _).heap.size; simp) (by omega)).trans ?_)
  have := heap_alloc_new (w.alloc o) (.cells #[.string x, .string y] 9)
  have e : (w.alloc o).heap.size = w.heap.size + 1 := by simp
  rw [e] at this
  exact this
theorem rdkW3 {w w' : World} {o : Obj} {x y : ByteArray} (h : ∀ q, q < (((w.alloc (.cells #[.string x, .string y] 9)).alloc o).drew).heap.size → q ≠ w.heap.size + 1 → w'.heap[q]? = (((w.alloc (.cells #[.string x, .string y] 9)).alloc o).drew).heap[q]?) : RdK w' (some ⟨w.heap.size, 0, none⟩) 2 1 [.string x, .string y] := by
  refine rdkW_row ((h _ (by show _ < ((w.alloc _).alloc o).heap.size; simp <;> omega) (by omega)).trans ?_)
  have e : w.heap.size < (w.alloc (.cells #[.string x, .string y] 9)).heap.size := by simp
  exact (Below.heap_alloc (w.alloc (.cells #[.string x, .string y] 9)) o w.heap.size e).trans (heap_alloc_new w _)
theorem rdkW_lit (w : World) (x y : ByteArray) : RdK (w.alloc (.cells #[.string x, .string y] 9)) (some ⟨w.heap.size, 0, none⟩) 2 1 [.string x, .string y] := rdkW_row (heap_alloc_new w _)
end Go.Proofs.YtdgedclpaplgoaaGreatDoor.draw
