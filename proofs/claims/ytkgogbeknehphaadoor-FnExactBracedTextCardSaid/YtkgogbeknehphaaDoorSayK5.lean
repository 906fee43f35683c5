/- impl.bracedKids of a list. Printed by gen/gen_sayi.py. -/
import Derived.Test.YtkgogbeknehphaaDoorSayJ
namespace Go.Proofs.YtkgogbeknehphaaDoor.say
open Go.ChangeShapes Go.WideShapes Go.ChangeAt Go.RowKit tree
open rune (Tabs)
open decimal (Pow)
set_option linter.unusedVariables false

set_option maxRecDepth 1000000 in
set_option maxHeartbeats 8000000 in
theorem impl_kids5 (f : Nat) (hIH : OfI f) (fl : Bool) (n : Int) (s : ByteArray) (ks : List ByteArray) (kids : List T) (A1 A2 : Option Addr) (c1 c2 : Nat) (w : World) (hk : KidsAt w f A2 kids) (hr : Rd w A1 ks.length (scells ks)) (hko : KeysOk ks) (hk8 : True) (hkd : ∀ x ∈ kids, Shape x)
    (hc1 : ks.length ≤ c1) (hc2 : c1 ≤ maxLen) (hc3 : kids.length ≤ c2) (hc4 : c2 ≤ maxLen) (hroom : (joinC (kids.map say)).length ≤ 1099511627776) (hsz : sizes kids ≤ 1099511627776) (hP : Pow w) (hT : Tabs w) :
    Calls Tryd.prog 30 #[.agg #[.int .i64 5, .bool fl, .int .i64 n, .string s, .slice A1 ks.length c1, .slice A2 kids.length c2]] w (KidsOut w (kids.map say)) := by
  obtain ⟨i0, hi, hz0, hz1, hz2⟩ := info_parts TrydinfoStr'
  obtain ⟨w1, hw1⟩ : ∃ w1, w1 = w.alloc (.cells #[.int .i64 5, .bool fl, .int .i64 n, .string s, .slice A1 ks.length c1, .slice A2 kids.length c2] 30) := ⟨_, rfl⟩
  have hsz1 : w1.heap.size = w.heap.size + 1 := by rw [hw1]; simp
  have hb1 : Below w.heap.size w w1 := by rw [hw1]; exact (Below.refl _ _).alloc (Nat.le_refl _) _
  have hbox1 : w1.heap[w.heap.size]? = some (.cells #[.int .i64 5, .bool fl, .int .i64 n, .string s, .slice A1 ks.length c1, .slice A2 kids.length c2] 30 (0, 0)) := by rw [hw1]; exact heap_alloc_new w _
  have Hw1 := Lib.hid hw1
  have Hb1 := Lib.hid hb1
  have Hsz1 := Lib.hid hsz1
  have Hbox1 := Lib.hid hbox1
  have Hk := Lib.hid (hk.below hb1)
  have Hr := Lib.hid (hr.below hb1)
  have Hkd := Lib.hid hkd
  have Hko := Lib.hid hko
  have HP := Lib.hid (hP.below hb1)
  have HT := Lib.hid (hT.below hb1)
  have HIH := Lib.hid hIH
  have hil : (kids.map say).length = kids.length := by rw [List.length_map]
  have hown0 : (w1.alloc (.cells #[] 9)).ownsRow w1.heap.size 9 1 (.slice (some ⟨w1.heap.size, 0, none⟩) 0 0) 0 (scells []) := World.ownsRow_lit w1 #[] 0 (Nat.le_refl _) (by simp [maxLen]) rfl
  have Hown0 := Lib.hid hown0
  have Hbw0 := Lib.hid (show Below w1.heap.size w1 (w1.alloc (.cells #[] 9)) from (Below.refl _ _).alloc (Nat.le_refl _) _)
  have hkl := Nat.le_trans (length_le_sizes kids) hsz
  have Hk8 := Lib.hid hk8
  clear hk hr hkd hko hP hT hIH hb1 hown0 hsz1 hw1 hk8
  unfold maxLen at hc4 hc2
  go_enter Tryd.func30, Tryd.ntmps30
  go_upto_region 1 with fail
  rw [← Hw1.out]
  clear Hw1
  have p5 : (w1.alloc (.cells #[] 9)).cell? ⟨w.heap.size, 5, none⟩ = some (.slice A2 kids.length c2) := (Row6.of (heap_kept Hbw0.out (heap_lt hbox1) hbox1)).2.2.2.2.2
  clear hbox1
  go_wp2_with fail
  clear p5
  go_loopw [3, 11] (fun v i wr => ∃ (j : Nat) (l : List ByteArray), j ≤ kids.length ∧ i = .int .i64 j ∧ Hid (l = ((kids.map say).take j).map by_) ∧ wr.ownsRow w1.heap.size 9 1 v j (scells l) ∧ Below w1.heap.size w1 wr) (fun _ i _ => kids.length - (intOf i).toNat)
  case atStart => exact ⟨0, [], Nat.zero_le _, rfl, rfl, Hown0.out, Hbw0.out⟩
  case round =>
    clear Hown0 Hbw0
    obtain ⟨j, l, hj, rfl, hl, hown, hbel⟩ := hrel
    have hszr := hbel.size
    by_cases hlt : j < kids.length
    · have hit : (kids.map say)[j]'(by omega) = say kids[j] := by rw [List.getElem_map]
      have hsay : (say kids[j]).length ≤ 1099511627776 := by
        have h1 := join_take (kids.map say) j (by omega)
        have h2 := join_len (kids.map say) (j + 1)
        rw [hit] at h1
        rw [h1] at h2
        split at h2
        · try simp only [List.length_append, List.length_cons] at h2
          omega
        · simp only [List.length_append, List.length_cons] at h2; omega
      have Hl2 := Lib.hid (show (((kids.map say).take (j + 1)).map by_) = l ++ [by_ (say kids[j])] by rw [List.take_succ_eq_append_getElem (by omega), List.map_append, hl.out, hit]; rfl)
      obtain ⟨g, o, rfl, hg, hkid⟩ := Hk.out (by omega)
      obtain ⟨u0, u1, u2, u3, u4, u5, hsix, hls⟩ := hkid j kids[j] (List.getElem?_eq_getElem hlt)
      have hone : (#[u0, u1, u2, u3, u4, u5] : Array Value).all (·.oneCell') = true := by have := one_of_lies hls; simpa using this
      have HC := Lib.hid (fun w' (hb : Below w1.heap.size w1 w') => HIH.out kids[j] _ w' (hls.below hb) (Hkd.out _ (List.getElem_mem hlt)) hsay (Nat.le_trans (sizes_le_mem (List.getElem_mem hlt)) hsz) (HP.out.below hb) (HT.out.below hb))
      obtain ⟨q0, q1, q2, q3, q4, q5⟩ := hsix.block (hbel.block g hg)
      have hboxr := heap_kept hbel (heap_lt Hbox1.out) Hbox1.out
      obtain ⟨p0, p1, p2, p3, p4, p5⟩ := Row6.of hboxr
      clear hkid hls hsix hit hsay
      obtain ⟨y, hy⟩ : ∃ y, by_ (say kids[j]) = y := ⟨_, rfl⟩
      rw [hy] at HC Hl2
      clear hy
      obtain ⟨w4, hw4⟩ : ∃ w4, w4 = wr.alloc (.cells #[u0, u1, u2, u3, u4, u5] 30) := ⟨_, rfl⟩
      have hb4 : Below w1.heap.size w1 w4 := by rw [hw4]; exact hbel.alloc hszr _
      obtain ⟨r0, r1, r2, r3, r4, r5⟩ : Row6 w4 wr.heap.size u0 u1 u2 u3 u4 u5 := by rw [hw4]; exact Row6.of (heap_alloc_new wr _)
      have hown4 := hown.alloc (.cells #[u0, u1, u2, u3, u4, u5] 30)
      rw [← hw4] at hown4
      have Hw4 := Lib.hid hw4
      have Hb4 := Lib.hid hb4
      have Hown4 := Lib.hid hown4
      rw [hw4] at r0 r1 r2 r3 r4 r5
      clear hw4 hb4 hown hown4 hboxr
      go_wp2_with (first | (refine wpList_store_row rfl 30 _ _ rfl wr.heap.size #[u0, u1, u2, u3, u4, u5] rfl rfl 30 _ (heap_alloc_new wr _) tree_size' rfl hone ?_; rw [World.setRow_alloc_new]) | fail)
      rw [← Hw4.out]
      refine (HC.out w4 Hb4.out).mono ?_
      rintro e w5 ⟨rfl, hb5⟩
      have hbel5 := Hb4.out.trans (hb5.mono Hb4.out.size)
      have hown5 := own_below Hown4.out hb5
      have hbox5 := heap_kept hbel5 (heap_lt Hbox1.out) Hbox1.out
      have Hbel5 := Lib.hid hbel5
      clear HC r0 r1 r2 r3 r4 r5 p0 p1 p2 p3 p4 p5 q0 q1 q2 q3 q4 q5 hb5 Hown4 Hb4 Hw4 hbel hszr
      obtain ⟨p0, p1, p2, p3, p4, p5⟩ := Row6.of hbox5
      have hsz5 := hbel5.size
      go_wp2_with (first | (at_builtin; refine wpList_append_own _ rfl (.tmp 30) (.tmp 32) 22 rfl w1.heap.size 9 i0 (.string ⟨#[]⟩) 1 16 Tryd.underlying22 hi hz0 hz1 hz2 rfl (by decide) _ j _ rfl (hown5.alloc _) ⟨w5.heap.size, 0, none⟩ 1 1 [.string (y)] rfl rfl (by exact lit_cells _ _ _) (by intro u hu; simp at hu; subst hu; rfl) (by unfold maxLen; omega) (by omega) (by simp; omega) ?_) | fail)
      intro v7 w7 hown7 hg7 _
      have hbel7 := (hbel5.alloc hsz5 _).grown hg7 (by simp; omega) (fun b hb => (hown5.lt b hb).1)
      have Hown7 := Lib.hid (show w7.ownsRow w1.heap.size 9 1 v7 (j + 1) (scells (l ++ [y])) by
        have h := hown7
        rwa [show scells l ++ [Value.string (y)] = scells (l ++ [y]) by simp [scells]] at h)
      have Hbel7 := Lib.hid hbel7
      clear hown7 hg7 hown5 hbel5 hsz5 hbel7 p0 p1 p2 p3 p4 p5 hbox5
      go_wp2_with fail
      go_roundw
      case rel => exact ⟨j + 1, _, by omega, by go_num, Hl2.out.symm, Hown7.out, Hbel7.out⟩
      case measure => simp [intOf]; omega
    · obtain rfl : j = kids.length := by omega
      have Hl9 := Lib.hid (show l = (kids.map say).map by_ by rw [hl.out, List.take_of_length_le (by omega)])
      obtain ⟨A9, c9, rfl, hn9, hc9, hr9⟩ := Rd.of_own hown
      have Hr9 := Lib.hid hr9
      have Hb9 := Lib.hid (Hb1.out.trans (hbel.mono Hb1.out.size))
      have Hn9 := Lib.hid hn9
      clear hown hbel hl hr9
      go_wp2_with fail
      go_ret
      refine ⟨A9, c9, by rw [hil]; rfl, by rw [hil]; exact Hn9.out, ?_, Hb9.out⟩
      rw [← Hl9.out, hil]
      exact Hr9.out
end Go.Proofs.YtkgogbeknehphaaDoor.say
