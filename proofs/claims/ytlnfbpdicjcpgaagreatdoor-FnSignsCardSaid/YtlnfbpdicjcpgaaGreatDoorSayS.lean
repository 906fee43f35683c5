/- spec.l10Say and spec.BracedText. Printed by gen/gen_says.py. -/
import Derived.Test.YtlnfbpdicjcpgaaGreatDoorGSayP
import Derived.Test.YtlnfbpdicjcpgaaGreatDoorGTree
import Derived.Test.YtlnfbpdicjcpgaaGreatDoorGDec
import Derived.Test.YtlnfbpdicjcpgaaGreatDoorQuoteS
import Derived.Test.YtlnfbpdicjcpgaaGreatDoorGArith
import Derived.Deep.Cut
namespace Go.Proofs.YtlnfbpdicjcpgaaGreatDoor.say
open Go.ChangeShapes Go.WideShapes Go.ChangeAt Go.RowKit tree
set_option linter.unusedVariables false

/-- Rows that hold a tree stand as they were. -/
def KeptT (w w' : World) : Prop := ∀ (g : Nat) (o : Array Value), w.heap[g]? = some (.cells o 28 (0, 0)) → w'.heap[g]? = some (.cells o 28 (0, 0))
theorem KeptT.refl (w : World) : KeptT w w := fun _ _ h => h
theorem KeptT.trans {a b c : World} (h : KeptT a b) (k : KeptT b c) : KeptT a c := fun g o ho => k g o (h g o ho)
theorem KeptT.below {w w' : World} (h : Below w.heap.size w w') : KeptT w w' := fun g o ho => heap_kept h (heap_lt ho) ho
theorem bytes_ne_tree : (5 : TypeId) ≠ 28 := by decide
theorem KeptT.grown {w w' : World} {B n : Nat} {v : Value} {xs : List Value} (hown : w.ownsRow B 5 1 v n xs) (hg : w.grownBy w' v.ownBlock) : KeptT w w' := fun g o ho => by
  refine (hg.block g (heap_lt ho) (fun e => ?_)).trans ho
  rcases hown.2 with ⟨rfl, _⟩ | ⟨k, cap, cur, rfl, _, hk, _⟩
  · cases e
  · have e2 : g = k := by simpa [Value.ownBlock] using e
    subst e2
    rw [ho] at hk
    injection hk with hk
    injection hk with _ h2 _
    exact bytes_ne_tree h2.symm
def Said (w0 w : World) (l : List UInt8) (e : Ending) (w' : World) : Prop :=
  ∃ v' m', e = .returned v' ∧ l.length = m' ∧ w'.ownsRow w0.heap.size 5 1 v' m' (bcells l) ∧ Below w0.heap.size w0 w' ∧ KeptT w w'

set_option maxRecDepth 1000000 in
set_option maxHeartbeats 8000000 in
theorem spec_say : ∀ (f : Nat) (t : T) (vs : List Value) (w0 w : World) (v : Value) (m : Nat) (bs : List UInt8), LiesS w0 f vs (row t) → Shape t → Below w0.heap.size w0 w → w.ownsRow w0.heap.size 5 1 v m (bcells bs) → bs.length = m → m + (say t).length ≤ 1099511627776 →
    Calls Tryz.prog 12 #[.agg vs.toArray, v] w (Said w0 w (bs ++ say t))
  | 0, t, vs, w0, w, v, m, bs, h, _, _, _, _, _ => by
    obtain ⟨k, fl, n, s, ks, kids⟩ := t
    obtain ⟨_, _, _, _, _, _, _, _, _, _, _, _, _, _, f', hf, _⟩ := open_tree h
    omega
  | f + 1, t, vs, w0, w, v, m, bs, h, hsh, hbel, hown, hlen, hroom => by
    obtain ⟨k, fl, n, s, ks, kids⟩ := t
    obtain ⟨A1, c1, A2, c2, rfl, wk, wn, hs, hc1, hc2, hr, hks, hc3, hc4, f', hf, hk⟩ := open_tree h
    obtain rfl : f = f' := by omega
    rw [Shape, shapes_iff] at hsh
    obtain ⟨⟨hk1, hk6, _, _, _, _, _, hk8⟩, ht, hko, hkd⟩ := hsh
    obtain ⟨i0, hi, hz0, hz1, hz2⟩ := info_parts binfo.Tryzinfo
    have IH := Lib.hid (fun x vs w v m bs h1 h2 h3 h4 h5 h6 => spec_say f x vs w0 w v m bs h1 h2 h3 h4 h5 h6)
    have HB := Lib.hid (Box.new 28 w [.int .i64 k, .bool fl, .int .i64 n, .string s, .slice A1 ks.length c1, .slice A2 kids.length c2])
    have Hk := Lib.hid hk
    have Hr := Lib.hid hr
    have Hkd := Lib.hid hkd
    have Hko := Lib.hid hko
    have Hlen := Lib.hid hlen
    have Hk8 := Lib.hid hk8
    have hsz := hbel.size
    have Hb1 := Lib.hid (below_link hbel ((Below.refl _ _).alloc (Nat.le_refl _) (.cells #[.int .i64 k, .bool fl, .int .i64 n, .string s, .slice A1 ks.length c1, .slice A2 kids.length c2] 28)) hbel.size)
    have hown1 := hown.alloc (.cells #[.int .i64 k, .bool fl, .int .i64 n, .string s, .slice A1 ks.length c1, .slice A2 kids.length c2] 28)
    have hsz1 : w0.heap.size ≤ (w.alloc (.cells #[.int .i64 k, .bool fl, .int .i64 n, .string s, .slice A1 ks.length c1, .slice A2 kids.length c2] 28)).heap.size := Hb1.out.size
    have p0 := HB.out.cell (j := 0) rfl
    unfold maxLen at hc4 hc2
    clear h hk hr hf hkd hko hlen hown hbel hk8
    obtain rfl | rfl | rfl | rfl | rfl | rfl : k = 1 ∨ k = 2 ∨ k = 3 ∨ k = 4 ∨ k = 5 ∨ k = 6 := by omega
    · clear Hk Hr Hkd Hko IH
      rw [say1] at hroom ⊢
      have hrm : m + 4 ≤ 1099511627776 := hroom
      go_enter Tryz.func12, Tryz.ntmps12
      go_wp2_with (first | (at_builtin; refine Lib.wpList_append_own_string _ rfl (.tmp 11) (.const (.string ⟨#[110, 117, 108, 108]⟩)) 22 9 rfl w0.heap.size 5 i0 Tryz.underlying22 Tryz.underlying9 hi hz0 hz1 hz2 _ (m) _ rfl hown1 ⟨#[110, 117, 108, 108]⟩ rfl (by unfold maxLen; show m + 4 ≤ _; omega) (by show m + 4 ≤ _; omega) hsz1 ?_) | fail)
      intro v3 w3 hown3 hg3 _
      have hb3 : Below w0.heap.size w0 w3 := Hb1.out.grown hg3 Hb1.out.size (fun b hb => (hown1.lt b hb).1)
      have hk3 : KeptT w w3 := (KeptT.below ((Below.refl _ _).alloc (Nat.le_refl _) _)).trans (KeptT.grown hown1 hg3)
      rw [show Lib.strCells ⟨#[110, 117, 108, 108]⟩ = bcells [110, 117, 108, 108] from rfl, ← bcells_append] at hown3
      have Hown3 := Lib.hid hown3
      have Hb3 := Lib.hid hb3
      have Hk3 := Lib.hid hk3
      clear hown1 hg3 hown3 hb3 hk3
      go_wp2_with fail
      go_ret
      exact ⟨_, _, rfl, by rw [List.length_append, Hlen.out]; rfl, Hown3.out, Hb3.out, Hk3.out⟩
    · clear Hk Hr Hkd Hko IH
      have p1 := HB.out.cell (j := 1) rfl
      cases fl
      · skip
        rw [say2] at hroom ⊢
        have hrm : m + 5 ≤ 1099511627776 := hroom
        go_enter Tryz.func12, Tryz.ntmps12
        go_wp2_with (first | (at_builtin; refine Lib.wpList_append_own_string _ rfl (.tmp 19) (.const (.string ⟨#[102, 97, 108, 115, 101]⟩)) 22 9 rfl w0.heap.size 5 i0 Tryz.underlying22 Tryz.underlying9 hi hz0 hz1 hz2 _ (m) _ rfl hown1 ⟨#[102, 97, 108, 115, 101]⟩ rfl (by unfold maxLen; show m + 5 ≤ _; omega) (by show m + 5 ≤ _; omega) hsz1 ?_) | fail)
        intro v3 w3 hown3 hg3 _
        have hb3 : Below w0.heap.size w0 w3 := Hb1.out.grown hg3 Hb1.out.size (fun b hb => (hown1.lt b hb).1)
        have hk3 : KeptT w w3 := (KeptT.below ((Below.refl _ _).alloc (Nat.le_refl _) _)).trans (KeptT.grown hown1 hg3)
        rw [show Lib.strCells ⟨#[102, 97, 108, 115, 101]⟩ = bcells [102, 97, 108, 115, 101] from rfl, ← bcells_append] at hown3
        have Hown3 := Lib.hid hown3
        have Hb3 := Lib.hid hb3
        have Hk3 := Lib.hid hk3
        clear hown1 hg3 hown3 hb3 hk3
        go_wp2_with fail
        go_ret
        exact ⟨_, _, rfl, by rw [List.length_append, Hlen.out]; rfl, Hown3.out, Hb3.out, Hk3.out⟩
      · skip
        rw [say2] at hroom ⊢
        have hrm : m + 4 ≤ 1099511627776 := hroom
        go_enter Tryz.func12, Tryz.ntmps12
        go_wp2_with (first | (at_builtin; refine Lib.wpList_append_own_string _ rfl (.tmp 17) (.const (.string ⟨#[116, 114, 117, 101]⟩)) 22 9 rfl w0.heap.size 5 i0 Tryz.underlying22 Tryz.underlying9 hi hz0 hz1 hz2 _ (m) _ rfl hown1 ⟨#[116, 114, 117, 101]⟩ rfl (by unfold maxLen; show m + 4 ≤ _; omega) (by show m + 4 ≤ _; omega) hsz1 ?_) | fail)
        intro v3 w3 hown3 hg3 _
        have hb3 : Below w0.heap.size w0 w3 := Hb1.out.grown hg3 Hb1.out.size (fun b hb => (hown1.lt b hb).1)
        have hk3 : KeptT w w3 := (KeptT.below ((Below.refl _ _).alloc (Nat.le_refl _) _)).trans (KeptT.grown hown1 hg3)
        rw [show Lib.strCells ⟨#[116, 114, 117, 101]⟩ = bcells [116, 114, 117, 101] from rfl, ← bcells_append] at hown3
        have Hown3 := Lib.hid hown3
        have Hb3 := Lib.hid hb3
        have Hk3 := Lib.hid hk3
        clear hown1 hg3 hown3 hb3 hk3
        go_wp2_with fail
        go_ret
        exact ⟨_, _, rfl, by rw [List.length_append, Hlen.out]; rfl, Hown3.out, Hb3.out, Hk3.out⟩
    · clear Hk Hr Hkd Hko IH
      have p2 := HB.out.cell (j := 2) rfl
      rw [say3] at hroom ⊢
      have hI : -9223372036854775808 ≤ n ∧ n ≤ 9223372036854775807 := by
        have e1 : IntKind.i64.min = -9223372036854775808 := rfl
        have e2 : IntKind.i64.max = 9223372036854775807 := rfl
        simp [Lit.wf, e1, e2] at wn
        exact wn
      have HD := Lib.hid (fun w => decimal.spec_any n w hI.1 hI.2)
      obtain ⟨d, hd⟩ : ∃ d, (⟨(Lib.itoa n).toArray⟩ : ByteArray) = d := ⟨_, rfl⟩
      have hdl : d.data.toList = Lib.itoa n := by subst hd; rfl
      have hds : d.size = (Lib.itoa n).length := by subst hd; show (Lib.itoa n).toArray.size = _; rw [List.size_toArray]
      rw [hd] at HD
      rw [← hdl]
      have hrm : m + d.size ≤ 1099511627776 := by rw [hds]; exact hroom
      clear hd hdl hds hroom
      go_enter Tryz.func12, Tryz.ntmps12
      go_wp2_with fail
      refine (HD.out _).mono ?_
      rintro e w2 ⟨rfl, hb2⟩
      have hown2 := own_below hown1 hb2
      have hbel2 := Hb1.out.trans (hb2.mono Hb1.out.size)
      have hk2 : KeptT w w2 := (KeptT.below ((Below.refl _ _).alloc (Nat.le_refl _) _)).trans (KeptT.below hb2)
      have hsz2 := hbel2.size
      clear HD hown1 hb2
      go_wp2_with (first | (at_builtin; refine Lib.wpList_append_own_string _ rfl (.tmp 23) (.tmp 26) 22 9 rfl w0.heap.size 5 i0 Tryz.underlying22 Tryz.underlying9 hi hz0 hz1 hz2 _ (m) _ rfl hown2 d rfl (by unfold maxLen; skip; omega) (by skip; omega) hsz2 ?_) | fail)
      intro v3 w3 hown3 hg3 _
      have hb3 : Below w0.heap.size w0 w3 := hbel2.grown hg3 hsz2 (fun b hb => (hown2.lt b hb).1)
      have hk3 : KeptT w w3 := hk2.trans (KeptT.grown hown2 hg3)
      rw [show Lib.strCells d = bcells d.data.toList from rfl, ← bcells_append] at hown3
      have Hown3 := Lib.hid hown3
      have Hb3 := Lib.hid hb3
      have Hk3 := Lib.hid hk3
      clear hown2 hg3 hown3 hb3 hk3
      go_wp2_with fail
      go_ret
      exact ⟨_, _, rfl, by rw [List.length_append, Hlen.out]; simp, Hown3.out, Hb3.out, Hk3.out⟩
    · clear Hk Hr Hkd Hko IH
      have p3 := HB.out.cell (j := 3) rfl
      rw [say4] at hroom ⊢
      have hs4 : s.size ≤ 1048576 := Nat.le_trans ht.1 (by omega)
      have HD := Lib.hid (fun w => quote.spec_quoted s w hs4)
      unfold quoteL at hroom ⊢
      obtain ⟨d, hd⟩ : ∃ d, quote.quotedF s = d := ⟨_, rfl⟩
      rw [hd] at HD hroom ⊢
      have hrm : m + d.size ≤ 1099511627776 := by have e : d.data.toList.length = d.size := by simp
                                                  omega
      clear hd hroom
      go_enter Tryz.func12, Tryz.ntmps12
      go_wp2_with fail
      refine (HD.out _).mono ?_
      rintro e w2 ⟨rfl, hb2⟩
      have hown2 := own_below hown1 hb2
      have hbel2 := Hb1.out.trans (hb2.mono Hb1.out.size)
      have hk2 : KeptT w w2 := (KeptT.below ((Below.refl _ _).alloc (Nat.le_refl _) _)).trans (KeptT.below hb2)
      have hsz2 := hbel2.size
      clear HD hown1 hb2
      go_wp2_with (first | (at_builtin; refine Lib.wpList_append_own_string _ rfl (.tmp 30) (.tmp 33) 22 9 rfl w0.heap.size 5 i0 Tryz.underlying22 Tryz.underlying9 hi hz0 hz1 hz2 _ (m) _ rfl hown2 d rfl (by unfold maxLen; skip; omega) (by skip; omega) hsz2 ?_) | fail)
      intro v3 w3 hown3 hg3 _
      have hb3 : Below w0.heap.size w0 w3 := hbel2.grown hg3 hsz2 (fun b hb => (hown2.lt b hb).1)
      have hk3 : KeptT w w3 := hk2.trans (KeptT.grown hown2 hg3)
      rw [show Lib.strCells d = bcells d.data.toList from rfl, ← bcells_append] at hown3
      have Hown3 := Lib.hid hown3
      have Hb3 := Lib.hid hb3
      have Hk3 := Lib.hid hk3
      clear hown2 hg3 hown3 hb3 hk3
      go_wp2_with fail
      go_ret
      exact ⟨_, _, rfl, by rw [List.length_append, Hlen.out]; simp, Hown3.out, Hb3.out, Hk3.out⟩
    · skip
      have Hkl := Lib.hid (trivial)
      clear Hk8
      rw [say5] at hroom ⊢
      have hrm : m + (joinC (kids.map say)).length + 2 ≤ 1099511627776 := by simp only [List.length_cons, List.length_append, List.length_nil] at hroom; omega
      obtain ⟨w1, hw1⟩ : ∃ w1, w1 = w.alloc (.cells #[.int .i64 5, .bool fl, .int .i64 n, .string s, .slice A1 ks.length c1, .slice A2 kids.length c2] 28) := ⟨_, rfl⟩
      have hbox1 : w1.heap[w.heap.size]? = some (.cells #[.int .i64 5, .bool fl, .int .i64 n, .string s, .slice A1 ks.length c1, .slice A2 kids.length c2] 28 (0, 0)) := by rw [hw1]; exact HB.out.2
      have hk1 : KeptT w w1 := by rw [hw1]; exact KeptT.below ((Below.refl _ _).alloc (Nat.le_refl _) _)
      have Hw1 := Lib.hid hw1
      have Hb1' := Lib.hid (show Below w0.heap.size w0 w1 by rw [hw1]; exact Hb1.out)
      have hown1' : w1.ownsRow w0.heap.size 5 1 v m (bcells bs) := by rw [hw1]; exact hown1
      have hsz1' := Hb1'.out.size
      clear hroom hw1 HB Hb1 hown1 hsz1
      go_enter Tryz.func12, Tryz.ntmps12
      go_upto_region 13 with fail
      rw [← Hw1.out]
      clear Hw1 p0
      go_wp2_with (first | (at_builtin; refine wpList_append_own _ rfl (.tmp 37) (.tmp 38) 22 rfl w0.heap.size 5 i0 (.int .u8 0) 1 1 Tryz.underlying22 hi hz0 hz1 hz2 rfl (by decide) _ (m) _ rfl (hown1'.alloc _) ⟨w1.heap.size, 0, none⟩ 1 1 [.int .u8 91] rfl rfl (by exact lit_cells _ _ _) (binfo.one_cell _) (by unfold maxLen; omega) (by omega) (by simp; omega) ?_) | fail)
      intro v3 w3 hown3 hg3 _
      have Hb3 := Lib.hid (show Below w0.heap.size w0 w3 from (Hb1'.out.alloc hsz1' _).grown hg3 (by simp; omega) (fun b hb => (hown1'.lt b hb).1))
      have hka : KeptT w1 (w1.alloc (.cells #[.int .u8 91] 5)) := KeptT.below ((Below.refl _ _).alloc (Nat.le_refl _) _)
      have hkg := hka.trans (KeptT.grown (hown1'.alloc _) hg3)
      have Hk3 := Lib.hid (hk1.trans hkg)
      have Hbox3 := Lib.hid (hkg _ _ hbox1)
      rw [show ([.int .u8 91] : List Value) = bcells [91] from rfl, ← bcells_append] at hown3
      have Hown3 := Lib.hid hown3
      clear hown3 hg3 hka hkg hbox1 hk1 hown1' Hb1' hsz1'
      go_wp2_with fail
      go_loopw [1, 5] (fun v i wr => ∃ (j m' : Nat) (bs' : List UInt8), j ≤ kids.length ∧ i = .int .i64 j ∧ bs'.length = m' ∧ Hid (bs' = bs ++ 91 :: joinC ((kids.map say).take j)) ∧ wr.ownsRow w0.heap.size 5 1 v m' (bcells bs') ∧ Below w0.heap.size w0 wr ∧ wr.heap[w.heap.size]? = some (.cells #[.int .i64 5, .bool fl, .int .i64 n, .string s, .slice A1 ks.length c1, .slice A2 kids.length c2] 28 (0, 0)) ∧ KeptT w wr) (fun _ i _ => kids.length - (intOf i).toNat)
      case atStart => exact ⟨0, m + 1, bs ++ [91], Nat.zero_le _, rfl, by rw [List.length_append, Hlen.out]; rfl, rfl, Hown3.out, Hb3.out, Hbox3.out, Hk3.out⟩
      case round =>
        clear Hown3 Hb3 Hbox3 Hk3
        obtain ⟨j, m', bs', hj, rfl, hlen', hbs, hown, hbel, hbox, hkt⟩ := hrel
        have hszr := hbel.size
        have hil : (kids.map say).length = kids.length := by rw [List.length_map]
        obtain ⟨p0, p1, p2, p3, p4, p5⟩ := Row6.of hbox
        by_cases hlt : j < kids.length
        · have hjt := join_take (kids.map say) j (by omega)
          have hjl := join_len (kids.map say) (j + 1)
          have hit : (kids.map say)[j]'(by omega) = say kids[j] := by rw [List.getElem_map]
          rw [hit] at hjt
          have hml : m' = m + 1 + (joinC ((kids.map say).take j)).length := by rw [← hlen', hbs.out, List.length_append, List.length_cons, Hlen.out]; omega
          obtain ⟨g, o, rfl, hg, hkid⟩ := Hk.out (by omega)
          obtain ⟨u0, u1, u2, u3, u4, u5, hsix, hls⟩ := hkid j kids[j] (List.getElem?_eq_getElem hlt)
          have HC := Lib.hid (fun w v m bs h3 h4 h5 h6 => IH.out (kids[j]'hlt) _ w v m bs hls (Hkd.out _ (List.getElem_mem hlt)) h3 h4 h5 h6)
          have Hsix := Lib.hid hsix
          have Hbs := Lib.hid hbs.out
          have Hlen' := Lib.hid hlen'
          clear hit hkid hls hsix hbs hlen'
          generalize kids[j] = x at HC hjt
          by_cases hj0 : j = 0
          · rw [if_pos hj0] at hjt
            have hz : joinC ((kids.map say).take j) = [] := by rw [hj0]; rfl
            rw [hz] at hml Hbs
            have hjl2 := hjl
            rw [hjt] at hjl2
            simp only [List.length_nil] at hjl2 hml
            have hjn : ¬ (0 : Int) < j := by omega
            have hroom5 : m' + 1 + (say x).length ≤ 1099511627776 := by omega
            clear hml hjl2 hjl
            clear hz hj0
            obtain ⟨q0, q1, q2, q3, q4, q5⟩ := Hsix.out.block (hbel.block g hg)
            obtain ⟨p0, p1, p2, p3, p4, p5⟩ := Row6.of hbox
            have HC9 := Lib.hid (HC.out wr _ _ _ hbel hown Hlen'.out (by omega))
            have Hbox := Lib.hid hbox
            have Hkt := Lib.hid hkt
            clear HC hown hbel
            go_wp2_with fail
            refine HC9.out.mono ?_
            rintro e w9 ⟨v9, m9, rfl, hl9, hown9, hb9, hk9⟩
            have Hbox9 := Lib.hid (hk9 _ _ Hbox.out)
            have Hkt9 := Lib.hid (Hkt.out.trans hk9)
            have Hl9 := Lib.hid hl9
            have Hown9 := Lib.hid hown9
            have Hb9 := Lib.hid hb9
            clear HC9 Hbox Hkt hl9 hown9 hb9 hk9 q0 q1 q2 q3 q4 q5 p0 p1 p2 p3 p4 p5 hbox
            go_wp2_with fail
            go_roundw
            case rel => exact ⟨j + 1, m9, _, by omega, by go_num, Hl9.out, by unfold Hid; rw [hjt, Hbs.out]; simp, Hown9.out, Hb9.out, Hbox9.out, Hkt9.out⟩
            case measure => simp [intOf]; omega
          · rw [if_neg hj0] at hjt
            have hjl2 := hjl
            rw [hjt] at hjl2
            simp only [List.length_append, List.length_cons] at hjl2
            have hjp : (0 : Int) < j := by omega
            have hroom5 : m' + 1 + (say x).length ≤ 1099511627776 := by omega
            clear hml hjl2 hjl
            go_wp2_with (first | (at_builtin; refine wpList_append_own _ rfl (.tmp 49) (.tmp 50) 22 rfl w0.heap.size 5 i0 (.int .u8 0) 1 1 Tryz.underlying22 hi hz0 hz1 hz2 rfl (by decide) _ (m') _ rfl (hown.alloc _) ⟨wr.heap.size, 0, none⟩ 1 1 [.int .u8 44] rfl rfl (by exact lit_cells _ _ _) (binfo.one_cell _) (by unfold maxLen; omega) (by omega) (by simp; omega) ?_) | fail)
            intro v4 w4 hown4 hg4 _
            have hbel4 := (hbel.alloc hszr _).grown hg4 (by simp; omega) (fun b hb => (hown.lt b hb).1)
            have hka : KeptT wr (wr.alloc (.cells #[.int .u8 44] 5)) := KeptT.below ((Below.refl _ _).alloc (Nat.le_refl _) _)
            have hkg := hka.trans (KeptT.grown (hown.alloc _) hg4)
            have hbox4 := hkg _ _ hbox
            have hkt4 := hkt.trans hkg
            rw [show ([.int .u8 44] : List Value) = bcells [44] from rfl, ← bcells_append] at hown4
            clear hown hbel hkt hg4 hka hkg p0 p1 p2 p3 p4 p5 hszr
            obtain ⟨q0, q1, q2, q3, q4, q5⟩ := Hsix.out.block (hbel4.block g hg)
            obtain ⟨p0, p1, p2, p3, p4, p5⟩ := Row6.of hbox4
            have HC9 := Lib.hid (HC.out w4 _ _ _ hbel4 hown4 (by rw [List.length_append, Hlen'.out, List.length_singleton] <;> omega) (by omega))
            have Hbox := Lib.hid hbox4
            have Hkt := Lib.hid hkt4
            clear HC hown4 hbel4
            go_wp2_with fail
            refine HC9.out.mono ?_
            rintro e w9 ⟨v9, m9, rfl, hl9, hown9, hb9, hk9⟩
            have Hbox9 := Lib.hid (hk9 _ _ Hbox.out)
            have Hkt9 := Lib.hid (Hkt.out.trans hk9)
            have Hl9 := Lib.hid hl9
            have Hown9 := Lib.hid hown9
            have Hb9 := Lib.hid hb9
            clear HC9 Hbox Hkt hl9 hown9 hb9 hk9 q0 q1 q2 q3 q4 q5 p0 p1 p2 p3 p4 p5 hbox
            go_wp2_with fail
            go_roundw
            case rel => exact ⟨j + 1, m9, _, by omega, by go_num, Hl9.out, by unfold Hid; rw [hjt, Hbs.out]; simp, Hown9.out, Hb9.out, Hbox9.out, Hkt9.out⟩
            case measure => simp [intOf]; omega
        · obtain rfl : j = kids.length := by omega
          have Hres := Lib.hid (show bs' ++ [93] = bs ++ 91 :: (joinC (kids.map say) ++ [93]) by rw [hbs.out, List.take_of_length_le (by omega)]; simp)
          have Hlen' := Lib.hid hlen'
          have hml : m' ≤ 1099511627776 := by
            have e := hbs.out
            have e2 : (joinC ((kids.map say).take kids.length)).length ≤ (joinC (kids.map say)).length := join_len _ _
            have e3 := Hlen.out
            rw [e, List.length_append, List.length_cons] at hlen'
            omega
          clear hbs hlen'
          go_wp2_with (first | (at_builtin; refine wpList_append_own _ rfl (.tmp 59) (.tmp 60) 22 rfl w0.heap.size 5 i0 (.int .u8 0) 1 1 Tryz.underlying22 hi hz0 hz1 hz2 rfl (by decide) _ (m') _ rfl (hown.alloc _) ⟨wr.heap.size, 0, none⟩ 1 1 [.int .u8 93] rfl rfl (by exact lit_cells _ _ _) (binfo.one_cell _) (by unfold maxLen; omega) (by omega) (by simp; omega) ?_) | fail)
          intro v4 w4 hown4 hg4 _
          have Hb4 := Lib.hid ((hbel.alloc hszr _).grown hg4 (by simp; omega) (fun b hb => (hown.lt b hb).1))
          have hka : KeptT wr (wr.alloc (.cells #[.int .u8 93] 5)) := KeptT.below ((Below.refl _ _).alloc (Nat.le_refl _) _)
          have Hk4 := Lib.hid (hkt.trans (hka.trans (KeptT.grown (hown.alloc _) hg4)))
          rw [show ([.int .u8 93] : List Value) = bcells [93] from rfl, ← bcells_append] at hown4
          have Hown4 := Lib.hid hown4
          clear hown hbel hbox hkt hg4 hka hown4 p0 p1 p2 p3 p4 p5
          go_wp2_with fail
          go_ret
          rw [← Hres.out]
          exact ⟨_, _, rfl, by rw [List.length_append, Hlen'.out]; rfl, Hown4.out, Hb4.out, Hk4.out⟩
    · skip
      have Hkl := Lib.hid (Hk8.out rfl)
      clear Hk8
      rw [say6] at hroom ⊢
      have hrm : m + (joinC (List.zipWith pairL ks (kids.map say))).length + 2 ≤ 1099511627776 := by simp only [List.length_cons, List.length_append, List.length_nil] at hroom; omega
      obtain ⟨w1, hw1⟩ : ∃ w1, w1 = w.alloc (.cells #[.int .i64 6, .bool fl, .int .i64 n, .string s, .slice A1 ks.length c1, .slice A2 kids.length c2] 28) := ⟨_, rfl⟩
      have hbox1 : w1.heap[w.heap.size]? = some (.cells #[.int .i64 6, .bool fl, .int .i64 n, .string s, .slice A1 ks.length c1, .slice A2 kids.length c2] 28 (0, 0)) := by rw [hw1]; exact HB.out.2
      have hk1 : KeptT w w1 := by rw [hw1]; exact KeptT.below ((Below.refl _ _).alloc (Nat.le_refl _) _)
      have Hw1 := Lib.hid hw1
      have Hb1' := Lib.hid (show Below w0.heap.size w0 w1 by rw [hw1]; exact Hb1.out)
      have hown1' : w1.ownsRow w0.heap.size 5 1 v m (bcells bs) := by rw [hw1]; exact hown1
      have hsz1' := Hb1'.out.size
      clear hroom hw1 HB Hb1 hown1 hsz1
      go_enter Tryz.func12, Tryz.ntmps12
      go_upto_region 21 with fail
      rw [← Hw1.out]
      clear Hw1 p0
      go_wp2_with (first | (at_builtin; refine wpList_append_own _ rfl (.tmp 62) (.tmp 63) 22 rfl w0.heap.size 5 i0 (.int .u8 0) 1 1 Tryz.underlying22 hi hz0 hz1 hz2 rfl (by decide) _ (m) _ rfl (hown1'.alloc _) ⟨w1.heap.size, 0, none⟩ 1 1 [.int .u8 123] rfl rfl (by exact lit_cells _ _ _) (binfo.one_cell _) (by unfold maxLen; omega) (by omega) (by simp; omega) ?_) | fail)
      intro v3 w3 hown3 hg3 _
      have Hb3 := Lib.hid (show Below w0.heap.size w0 w3 from (Hb1'.out.alloc hsz1' _).grown hg3 (by simp; omega) (fun b hb => (hown1'.lt b hb).1))
      have hka : KeptT w1 (w1.alloc (.cells #[.int .u8 123] 5)) := KeptT.below ((Below.refl _ _).alloc (Nat.le_refl _) _)
      have hkg := hka.trans (KeptT.grown (hown1'.alloc _) hg3)
      have Hk3 := Lib.hid (hk1.trans hkg)
      have Hbox3 := Lib.hid (hkg _ _ hbox1)
      rw [show ([.int .u8 123] : List Value) = bcells [123] from rfl, ← bcells_append] at hown3
      have Hown3 := Lib.hid hown3
      clear hown3 hg3 hka hkg hbox1 hk1 hown1' Hb1' hsz1'
      go_wp2_with fail
      go_loopw [1, 6] (fun v i wr => ∃ (j m' : Nat) (bs' : List UInt8), j ≤ kids.length ∧ i = .int .i64 j ∧ bs'.length = m' ∧ Hid (bs' = bs ++ 123 :: joinC ((List.zipWith pairL ks (kids.map say)).take j)) ∧ wr.ownsRow w0.heap.size 5 1 v m' (bcells bs') ∧ Below w0.heap.size w0 wr ∧ wr.heap[w.heap.size]? = some (.cells #[.int .i64 6, .bool fl, .int .i64 n, .string s, .slice A1 ks.length c1, .slice A2 kids.length c2] 28 (0, 0)) ∧ KeptT w wr) (fun _ i _ => kids.length - (intOf i).toNat)
      case atStart => exact ⟨0, m + 1, bs ++ [123], Nat.zero_le _, rfl, by rw [List.length_append, Hlen.out]; rfl, rfl, Hown3.out, Hb3.out, Hbox3.out, Hk3.out⟩
      case round =>
        clear Hown3 Hb3 Hbox3 Hk3
        obtain ⟨j, m', bs', hj, rfl, hlen', hbs, hown, hbel, hbox, hkt⟩ := hrel
        have hszr := hbel.size
        have hil : (List.zipWith pairL ks (kids.map say)).length = kids.length := by rw [List.length_zipWith, List.length_map, Hkl.out, Nat.min_self]
        obtain ⟨p0, p1, p2, p3, p4, p5⟩ := Row6.of hbox
        by_cases hlt : j < kids.length
        · have hjt := join_take (List.zipWith pairL ks (kids.map say)) j (by omega)
          have hjl := join_len (List.zipWith pairL ks (kids.map say)) (j + 1)
          have hit : (List.zipWith pairL ks (kids.map say))[j]'(by omega) = quoteL (ks[j]'(by have := Hkl.out; omega)) ++ 58 :: say kids[j] := by rw [List.getElem_zipWith, List.getElem_map]; rfl
          rw [hit] at hjt
          have hml : m' = m + 1 + (joinC ((List.zipWith pairL ks (kids.map say)).take j)).length := by rw [← hlen', hbs.out, List.length_append, List.length_cons, Hlen.out]; omega
          obtain ⟨g, o, rfl, hg, hkid⟩ := Hk.out (by omega)
          obtain ⟨u0, u1, u2, u3, u4, u5, hsix, hls⟩ := hkid j kids[j] (List.getElem?_eq_getElem hlt)
          have HC := Lib.hid (fun w v m bs h3 h4 h5 h6 => IH.out (kids[j]'hlt) _ w v m bs hls (Hkd.out _ (List.getElem_mem hlt)) h3 h4 h5 h6)
          have Hsix := Lib.hid hsix
          have Hbs := Lib.hid hbs.out
          have Hlen' := Lib.hid hlen'
          clear hit hkid hls hsix hbs hlen'
          generalize kids[j] = x at HC hjt
          have hltk : j < ks.length := by have := Hkl.out; omega
          obtain ⟨gk, ok, rfl, hgk, hck⟩ := Hr.out.2 (by omega)
          have hcell0 := hck j hltk _ (scells_get ks j hltk)
          have hkey : (ks[j]).size ≤ 1048576 := Nat.le_trans (by have := (Hko.out j hltk).1.1; rwa [List.getD_eq_getElem?_getD, List.getElem?_eq_getElem hltk] at this) (show 400 ≤ 1048576 by omega)
          have HQ := Lib.hid (fun w => quote.spec_quoted ks[j] w hkey)
          have hql : ∀ d, quote.quotedF ks[j] = d → d.data.toList = quoteL ks[j] := fun d hd => by rw [← hd]; rfl
          clear hck
          obtain ⟨d, hd⟩ : ∃ d, quote.quotedF ks[j] = d := ⟨_, rfl⟩
          have hdl := hql d hd
          have hds : d.data.toList.length = d.size := by simp
          rw [hd] at HQ
          rw [← hdl] at hjt
          have Hcell0 := Lib.hid hcell0
          have Hds := Lib.hid hds
          clear hql hd hdl hkey hcell0
          generalize ks[j] = key at HQ Hcell0
          by_cases hj0 : j = 0
          · rw [if_pos hj0] at hjt
            have hz : joinC ((List.zipWith pairL ks (kids.map say)).take j) = [] := by rw [hj0]; rfl
            rw [hz] at hml Hbs
            have hjl2 := hjl
            rw [hjt] at hjl2
            simp only [List.length_append, List.length_cons, List.length_nil] at hjl2 hml
            have hjn : ¬ (0 : Int) < j := by omega
            have hroom5 : m' + 1 + d.size + 1 + (say x).length ≤ 1099511627776 := by have := Hds.out; omega
            clear hml hjl2 hjl hds
            clear hz hj0
            have hroom6 : m' + d.size + 1 + (say x).length ≤ 1099511627776 := by omega
            have hcell : wr.cell? ⟨gk, ok + j, none⟩ = some (.string key) := (hbel.cell (p := ⟨gk, ok + j, none⟩) hgk).trans Hcell0.out
            obtain ⟨p0, p1, p2, p3, p4, p5⟩ := Row6.of hbox
            go_wp2_with fail
            refine (HQ.out _).mono ?_
            rintro e w5 ⟨rfl, hb5⟩
            have hown5 := own_below hown hb5
            have hbel5 := hbel.trans (hb5.mono hbel.size)
            have hbox5 := KeptT.below hb5 _ _ hbox
            have hkt5 := hkt.trans (KeptT.below hb5)
            have hsz5 := hbel5.size
            clear HQ p0 p1 p2 p3 p4 p5 hcell
            go_wp2_with (first | (at_builtin; refine Lib.wpList_append_own_string _ rfl (.tmp 77) (.tmp 83) 22 9 rfl w0.heap.size 5 i0 Tryz.underlying22 Tryz.underlying9 hi hz0 hz1 hz2 _ (m') _ rfl hown5 d rfl (by unfold maxLen; skip; omega) (by skip; omega) hsz5 ?_) | fail)
            intro v6 w6 hown6 hg6 _
            have hbel6 := hbel5.grown hg6 hsz5 (fun b hb => (hown5.lt b hb).1)
            have hkg6 := KeptT.grown hown5 hg6
            have hbox6 := hkg6 _ _ hbox5
            have hkt6 := hkt5.trans hkg6
            have hsz6 := hbel6.size
            rw [show Lib.strCells d = bcells d.data.toList from rfl, ← bcells_append] at hown6
            clear hown5 hbel5 hbox5 hkt5 hsz5 hg6 hkg6 hb5
            go_wp2_with (first | (at_builtin; refine wpList_append_own _ rfl (.tmp 85) (.tmp 86) 22 rfl w0.heap.size 5 i0 (.int .u8 0) 1 1 Tryz.underlying22 hi hz0 hz1 hz2 rfl (by decide) _ (m' + d.size) _ rfl (hown6.alloc _) ⟨w6.heap.size, 0, none⟩ 1 1 [.int .u8 58] rfl rfl (by exact lit_cells _ _ _) (binfo.one_cell _) (by unfold maxLen; omega) (by omega) (by simp; omega) ?_) | fail)
            intro v7 w7 hown7 hg7 _
            have hbel7 := (hbel6.alloc hsz6 _).grown hg7 (by simp; omega) (fun b hb => (hown6.lt b hb).1)
            have hka : KeptT w6 (w6.alloc (.cells #[.int .u8 58] 5)) := KeptT.below ((Below.refl _ _).alloc (Nat.le_refl _) _)
            have hkg7 := hka.trans (KeptT.grown (hown6.alloc _) hg7)
            have hbox7 := hkg7 _ _ hbox6
            have hkt7 := hkt6.trans hkg7
            rw [show ([.int .u8 58] : List Value) = bcells [58] from rfl, ← bcells_append] at hown7
            clear hown6 hbel6 hbox6 hkt6 hsz6 hg7 hka hkg7
            obtain ⟨q0, q1, q2, q3, q4, q5⟩ := Hsix.out.block (hbel7.block g hg)
            obtain ⟨p0, p1, p2, p3, p4, p5⟩ := Row6.of hbox7
            have HC9 := Lib.hid (HC.out w7 _ _ _ hbel7 hown7 (by have h1 := Hds.out; have h2 := Hlen'.out; simp only [List.length_append, List.length_cons, List.length_nil]; omega) (by omega))
            have Hbox := Lib.hid hbox7
            have Hkt := Lib.hid hkt7
            clear HC hown7 hbel7
            go_wp2_with fail
            refine HC9.out.mono ?_
            rintro e w9 ⟨v9, m9, rfl, hl9, hown9, hb9, hk9⟩
            have Hbox9 := Lib.hid (hk9 _ _ Hbox.out)
            have Hkt9 := Lib.hid (Hkt.out.trans hk9)
            have Hl9 := Lib.hid hl9
            have Hown9 := Lib.hid hown9
            have Hb9 := Lib.hid hb9
            clear HC9 Hbox Hkt hl9 hown9 hb9 hk9 q0 q1 q2 q3 q4 q5 p0 p1 p2 p3 p4 p5 hbox
            go_wp2_with fail
            go_roundw
            case rel => exact ⟨j + 1, m9, _, by omega, by go_num, Hl9.out, by unfold Hid; rw [hjt, Hbs.out]; simp, Hown9.out, Hb9.out, Hbox9.out, Hkt9.out⟩
            case measure => simp [intOf]; omega
          · rw [if_neg hj0] at hjt
            have hjl2 := hjl
            rw [hjt] at hjl2
            simp only [List.length_append, List.length_cons] at hjl2
            have hjp : (0 : Int) < j := by omega
            have hroom5 : m' + 1 + d.size + 1 + (say x).length ≤ 1099511627776 := by have := Hds.out; omega
            clear hml hjl2 hjl hds
            go_wp2_with (first | (at_builtin; refine wpList_append_own _ rfl (.tmp 74) (.tmp 75) 22 rfl w0.heap.size 5 i0 (.int .u8 0) 1 1 Tryz.underlying22 hi hz0 hz1 hz2 rfl (by decide) _ (m') _ rfl (hown.alloc _) ⟨wr.heap.size, 0, none⟩ 1 1 [.int .u8 44] rfl rfl (by exact lit_cells _ _ _) (binfo.one_cell _) (by unfold maxLen; omega) (by omega) (by simp; omega) ?_) | fail)
            intro v4 w4 hown4 hg4 _
            have hbel4 := (hbel.alloc hszr _).grown hg4 (by simp; omega) (fun b hb => (hown.lt b hb).1)
            have hka : KeptT wr (wr.alloc (.cells #[.int .u8 44] 5)) := KeptT.below ((Below.refl _ _).alloc (Nat.le_refl _) _)
            have hkg := hka.trans (KeptT.grown (hown.alloc _) hg4)
            have hbox4 := hkg _ _ hbox
            have hkt4 := hkt.trans hkg
            rw [show ([.int .u8 44] : List Value) = bcells [44] from rfl, ← bcells_append] at hown4
            clear hown hbel hkt hg4 hka hkg p0 p1 p2 p3 p4 p5 hszr
            have hroom6 : m' + 1 + d.size + 1 + (say x).length ≤ 1099511627776 := by omega
            have hcell : w4.cell? ⟨gk, ok + j, none⟩ = some (.string key) := (hbel4.cell (p := ⟨gk, ok + j, none⟩) hgk).trans Hcell0.out
            obtain ⟨p0, p1, p2, p3, p4, p5⟩ := Row6.of hbox4
            go_wp2_with fail
            refine (HQ.out _).mono ?_
            rintro e w5 ⟨rfl, hb5⟩
            have hown5 := own_below hown4 hb5
            have hbel5 := hbel4.trans (hb5.mono hbel4.size)
            have hbox5 := KeptT.below hb5 _ _ hbox4
            have hkt5 := hkt4.trans (KeptT.below hb5)
            have hsz5 := hbel5.size
            clear HQ p0 p1 p2 p3 p4 p5 hcell
            go_wp2_with (first | (at_builtin; refine Lib.wpList_append_own_string _ rfl (.tmp 77) (.tmp 83) 22 9 rfl w0.heap.size 5 i0 Tryz.underlying22 Tryz.underlying9 hi hz0 hz1 hz2 _ (m' + 1) _ rfl hown5 d rfl (by unfold maxLen; skip; omega) (by skip; omega) hsz5 ?_) | fail)
            intro v6 w6 hown6 hg6 _
            have hbel6 := hbel5.grown hg6 hsz5 (fun b hb => (hown5.lt b hb).1)
            have hkg6 := KeptT.grown hown5 hg6
            have hbox6 := hkg6 _ _ hbox5
            have hkt6 := hkt5.trans hkg6
            have hsz6 := hbel6.size
            rw [show Lib.strCells d = bcells d.data.toList from rfl, ← bcells_append] at hown6
            clear hown5 hbel5 hbox5 hkt5 hsz5 hg6 hkg6 hb5
            go_wp2_with (first | (at_builtin; refine wpList_append_own _ rfl (.tmp 85) (.tmp 86) 22 rfl w0.heap.size 5 i0 (.int .u8 0) 1 1 Tryz.underlying22 hi hz0 hz1 hz2 rfl (by decide) _ (m' + 1 + d.size) _ rfl (hown6.alloc _) ⟨w6.heap.size, 0, none⟩ 1 1 [.int .u8 58] rfl rfl (by exact lit_cells _ _ _) (binfo.one_cell _) (by unfold maxLen; omega) (by omega) (by simp; omega) ?_) | fail)
            intro v7 w7 hown7 hg7 _
            have hbel7 := (hbel6.alloc hsz6 _).grown hg7 (by simp; omega) (fun b hb => (hown6.lt b hb).1)
            have hka : KeptT w6 (w6.alloc (.cells #[.int .u8 58] 5)) := KeptT.below ((Below.refl _ _).alloc (Nat.le_refl _) _)
            have hkg7 := hka.trans (KeptT.grown (hown6.alloc _) hg7)
            have hbox7 := hkg7 _ _ hbox6
            have hkt7 := hkt6.trans hkg7
            rw [show ([.int .u8 58] : List Value) = bcells [58] from rfl, ← bcells_append] at hown7
            clear hown6 hbel6 hbox6 hkt6 hsz6 hg7 hka hkg7
            obtain ⟨q0, q1, q2, q3, q4, q5⟩ := Hsix.out.block (hbel7.block g hg)
            obtain ⟨p0, p1, p2, p3, p4, p5⟩ := Row6.of hbox7
            have HC9 := Lib.hid (HC.out w7 _ _ _ hbel7 hown7 (by have h1 := Hds.out; have h2 := Hlen'.out; simp only [List.length_append, List.length_cons, List.length_nil]; omega) (by omega))
            have Hbox := Lib.hid hbox7
            have Hkt := Lib.hid hkt7
            clear HC hown7 hbel7
            go_wp2_with fail
            refine HC9.out.mono ?_
            rintro e w9 ⟨v9, m9, rfl, hl9, hown9, hb9, hk9⟩
            have Hbox9 := Lib.hid (hk9 _ _ Hbox.out)
            have Hkt9 := Lib.hid (Hkt.out.trans hk9)
            have Hl9 := Lib.hid hl9
            have Hown9 := Lib.hid hown9
            have Hb9 := Lib.hid hb9
            clear HC9 Hbox Hkt hl9 hown9 hb9 hk9 q0 q1 q2 q3 q4 q5 p0 p1 p2 p3 p4 p5 hbox
            go_wp2_with fail
            go_roundw
            case rel => exact ⟨j + 1, m9, _, by omega, by go_num, Hl9.out, by unfold Hid; rw [hjt, Hbs.out]; simp, Hown9.out, Hb9.out, Hbox9.out, Hkt9.out⟩
            case measure => simp [intOf]; omega
        · obtain rfl : j = kids.length := by omega
          have Hres := Lib.hid (show bs' ++ [125] = bs ++ 123 :: (joinC (List.zipWith pairL ks (kids.map say)) ++ [125]) by rw [hbs.out, List.take_of_length_le (by omega)]; simp)
          have Hlen' := Lib.hid hlen'
          have hml : m' ≤ 1099511627776 := by
            have e := hbs.out
            have e2 : (joinC ((List.zipWith pairL ks (kids.map say)).take kids.length)).length ≤ (joinC (List.zipWith pairL ks (kids.map say))).length := join_len _ _
            have e3 := Hlen.out
            rw [e, List.length_append, List.length_cons] at hlen'
            omega
          clear hbs hlen'
          go_wp2_with (first | (at_builtin; refine wpList_append_own _ rfl (.tmp 95) (.tmp 96) 22 rfl w0.heap.size 5 i0 (.int .u8 0) 1 1 Tryz.underlying22 hi hz0 hz1 hz2 rfl (by decide) _ (m') _ rfl (hown.alloc _) ⟨wr.heap.size, 0, none⟩ 1 1 [.int .u8 125] rfl rfl (by exact lit_cells _ _ _) (binfo.one_cell _) (by unfold maxLen; omega) (by omega) (by simp; omega) ?_) | fail)
          intro v4 w4 hown4 hg4 _
          have Hb4 := Lib.hid ((hbel.alloc hszr _).grown hg4 (by simp; omega) (fun b hb => (hown.lt b hb).1))
          have hka : KeptT wr (wr.alloc (.cells #[.int .u8 125] 5)) := KeptT.below ((Below.refl _ _).alloc (Nat.le_refl _) _)
          have Hk4 := Lib.hid (hkt.trans (hka.trans (KeptT.grown (hown.alloc _) hg4)))
          rw [show ([.int .u8 125] : List Value) = bcells [125] from rfl, ← bcells_append] at hown4
          have Hown4 := Lib.hid hown4
          clear hown hbel hbox hkt hg4 hka hown4 p0 p1 p2 p3 p4 p5
          go_wp2_with fail
          go_ret
          rw [← Hres.out]
          exact ⟨_, _, rfl, by rw [List.length_append, Hlen'.out]; rfl, Hown4.out, Hb4.out, Hk4.out⟩
end Go.Proofs.YtlnfbpdicjcpgaaGreatDoor.say
