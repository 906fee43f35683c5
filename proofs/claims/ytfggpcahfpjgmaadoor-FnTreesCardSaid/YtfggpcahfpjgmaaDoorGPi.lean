/- Merged: PutI PutJ. -/
import Derived.Test.YtfggpcahfpjgmaaDoorWithI
import Derived.Test.YtfggpcahfpjgmaaDoorWithL
import Derived.Test.YtfggpcahfpjgmaaDoorGMk
import Derived.Test.YtfggpcahfpjgmaaDoorGTo
import Derived.Test.YtfggpcahfpjgmaaDoorGCp
namespace Go.Proofs.YtfggpcahfpjgmaaDoor.tree
open Go.ChangeShapes Go.WideShapes Go.ChangeAt Go.RowKit
open rune (Tabs)
set_option linter.unusedVariables false

theorem own_flat {w : World} {B f n c size : Nat} {A : Option Addr} {ds : List C} {F : List Nat} (h : Own w B f (.slice A n c) (.sl size n ds) F) : Flat w A c := by
  match f, h with
  | f + 1, h =>
    rcases h.2 with ⟨e, _⟩ | ⟨g, c', cur, e, Fs, e2, h1, h2, h3, h4, _⟩
    · injection e with e1 e2 e3
      exact .inl ⟨e1, e3⟩
    · injection e2 with e1 e2 e3
      exact .inr ⟨g, 0, e1, heap_lt h4⟩
/-- The tree that withKid hands back lies in memory. -/
theorem with_lies {f i a N dv cv : Nat} {n : Int} {fl : Bool} {s key : ByteArray} {ks : List ByteArray} {kids : List T} {kid : T} {xs us : List Value} {Av Bv : Option Addr} {w' : World} {B : Nat} (wn : (Lit.int .i64 n).wf = true) (hs : s.size ≤ maxLen) (hks : ∀ x ∈ ks, x.size ≤ maxLen) (hkey : key.size ≤ maxLen)
    (hx : LiesS w' f xs (rows kids)) (hu : LiesS w' f us (row kid)) (hl : ks.length = kids.length) (hi : i ≤ ks.length) (hN : N = i + (ks.length - a + 1))
    (h1 : w'.ownsRow B 9 1 (.slice Av N cv) N (scells (ks.take i) ++ scells [key] ++ scells (ks.drop a))) (h2 : w'.ownsRow B 27 6 (.slice Bv N dv) N (xs.take (i * 6) ++ us ++ xs.drop (a * 6))) :
    LiesS w' (f + 2) [.int .i64 6, .bool fl, .int .i64 n, .string s, .slice Av N cv, .slice Bv N dv] (row (.mk 6 fl n s (ks.take i ++ key :: ks.drop a) (kids.take i ++ kid :: kids.drop a))) := by
  have hk1 : (ks.take i ++ key :: ks.drop a).length = N := by rw [List.length_append, List.length_take, List.length_cons, List.length_drop]; omega
  have hk2 : (kids.take i ++ kid :: kids.drop a).length = N := by rw [List.length_append, List.length_take, List.length_cons, List.length_drop]; omega
  have e1 : scells (ks.take i) ++ scells [key] ++ scells (ks.drop a) = scells (ks.take i ++ key :: ks.drop a) := by simp [scells]
  rw [e1] at h1
  have hsz : ∀ x ∈ ks.take i ++ key :: ks.drop a, x.size ≤ maxLen := fun x hx => by
    rcases List.mem_append.1 hx with h | h
    · exact hks x (List.mem_of_mem_take h)
    · rcases List.mem_cons.1 h with rfl | h
      · exact hkey
      · exact hks x (List.mem_of_mem_drop h)
  have l4 : Lies w' (f + 2) (.slice Av N cv) (.sl 1 N (skeys (ks.take i ++ key :: ks.drop a))) := lies_of_own h1 (lies_strs _ hsz)
  have hrows : LiesS w' f (xs.take (i * 6) ++ us ++ xs.drop (a * 6)) (rows (kids.take i ++ kid :: kids.drop a)) := by
    have h := liesS_app (liesS_app (LiesS.take hx (i * 6)) hu) (LiesS.drop hx (a * 6))
    rw [rows_take, rows_drop] at h
    have e : rows (kids.take i ++ kid :: kids.drop a) = rows (kids.take i) ++ row kid ++ rows (kids.drop a) := by rw [rows_append, rows, List.append_assoc]
    rw [e]
    exact h
  have l5 : Lies w' (f + 2) (.slice Bv N dv) (.sl 6 N (rows (kids.take i ++ kid :: kids.drop a))) := lies_of_own h2 (hrows.deeper (Nat.le_succ _))
  rw [row, hk1, hk2]
  have l0 : Lies w' (f + 2) (.int .i64 6) (.int .i64 6) := ⟨rfl, wf_small (by decide) (by decide)⟩
  have l1 : Lies w' (f + 2) (.bool fl) (.bool fl) := rfl
  have l2 : Lies w' (f + 2) (.int .i64 n) (.int .i64 n) := ⟨rfl, wn⟩
  have l3 : Lies w' (f + 2) (.string s) (.str s) := ⟨rfl, hs⟩
  exact LiesS.cons l0 (LiesS.cons l1 (LiesS.cons l2 (LiesS.cons l3 (LiesS.cons l4 (LiesS.cons l5 LiesS.nil)))))
theorem weight_put {ks : List ByteArray} {kids : List T} {k : Int} {fl : Bool} {n : Int} {s key : ByteArray} {kid : T} {i a : Nat} (hi : i ≤ a) : weight (.mk k fl n s (ks.take i ++ key :: ks.drop a) (kids.take i ++ kid :: kids.drop a)) ≤ weight (.mk k fl n s ks kids) + (key.size + 1) + (weight kid + 1) := by
  have h1 : ∀ l : List ByteArray, weightK (l.take i) + weightK (l.drop a) ≤ weightK l := fun l => by
    have h : weightK l = weightK (l.take a) + weightK (l.drop a) := by rw [← weightK_append, List.take_append_drop]
    have h2 : weightK (l.take a) = weightK ((l.take a).take i) + weightK ((l.take a).drop i) := by rw [← weightK_append, List.take_append_drop]
    rw [List.take_take, Nat.min_eq_left hi] at h2
    omega
  have h3 : ∀ l : List T, weights (l.take i) + weights (l.drop a) ≤ weights l := fun l => by
    have h : weights l = weights (l.take a) + weights (l.drop a) := by rw [← weights_append, List.take_append_drop]
    have h2 : weights (l.take a) = weights ((l.take a).take i) + weights ((l.take a).drop i) := by rw [← weights_append, List.take_append_drop]
    rw [List.take_take, Nat.min_eq_left hi] at h2
    omega
  have h4 := h1 ks
  have h5 := h3 kids
  simp only [weight, weightK_append, weights_append, weightK, weights, List.length_append, List.length_take, List.length_drop, List.length_cons]
  omega
end Go.Proofs.YtfggpcahfpjgmaaDoor.tree
namespace Go.Proofs.YtfggpcahfpjgmaaDoor.tree
open Go.ChangeShapes Go.WideShapes Go.ChangeAt Go.RowKit
open rune (Tabs)
set_option linter.unusedVariables false

theorem weightK_400 : ∀ ks : List ByteArray, (∀ k ∈ ks, k.size ≤ 400) → ks.length + weightK ks ≤ 401 * ks.length
  | [], _ => by simp [weightK]
  | a :: r, h => by
    have h1 := h a List.mem_cons_self
    have h2 := weightK_400 r (fun k hk => h k (List.mem_cons_of_mem _ hk))
    rw [weightK, List.length_cons]
    omega
theorem ok_weight : ∀ t : T, Shape t → weight t + 402 ≤ 802 * size t := by
  refine T.ind fun k f n s ks kids ih hsh => ?_
  rw [Shape, shapes_iff] at hsh
  obtain ⟨⟨f1, f2, f3, f4, f5, f6, f7, f8⟩, ht, hk, hkids⟩ := hsh
  have h1 : ∀ l : List T, (∀ x ∈ l, weight x + 402 ≤ 802 * size x) → 402 * l.length + weights l ≤ 802 * sizes l := by
    intro l
    induction l with
    | nil => intro _; simp [weights]
    | cons a r ih2 =>
      intro h
      have h1 := h a List.mem_cons_self
      have h2 := ih2 (fun x hx => h x (List.mem_cons_of_mem _ hx))
      rw [weights, sizes, List.length_cons]
      omega
  have h2 := h1 kids (fun x hx => ih x hx (hkids x hx))
  have h3 := weightK_400 ks (fun k hk2 => by
    obtain ⟨i, hi, rfl⟩ := List.getElem_of_mem hk2
    have := (hk i hi).1.1
    rwa [List.getD_eq_getElem?_getD, List.getElem?_eq_getElem hi] at this)
  have h4 : ks.length ≤ kids.length := by
    rcases Nat.eq_zero_or_pos ks.length with h | h
    · omega
    · exact Nat.le_of_eq (f8 (f6 h))
  have h5 := ht.1
  rw [weight, size]
  omega
set_option maxRecDepth 1000000 in
set_option maxHeartbeats 8000000 in
theorem impl_put (t : T) (key : ByteArray) (kid : T) {f f2 B : Nat} {F : List Nat} (vs us : List Value) (w : World) (h : OwnS w B f vs (row t) F) (hnd : F.Nodup) (hx : LiesS w f2 us (row kid)) (hkey : key.size ≤ 1048576) (hwt : weight t ≤ 1048576) (hwk : weight kid ≤ 1048576) (hT : Tabs w) :
    Calls Tryd.prog 6 #[.agg vs.toArray, .string key, .agg us.toArray] w fun e w' => (∃ g, KidOut w.heap.size g (putKid t key kid) e w') ∧ Below w.heap.size w w' := by
  have hl := h.lies
  obtain ⟨u0, u1, u2, u3, u4, u5, rfl⟩ := six_of (hx.1.trans (row_length _))
  obtain ⟨k, fl, n, s, ks, kids⟩ := t
  obtain ⟨v1, v2, F1, F2, e0, _, _, _, o1, o2, _, _, _, _⟩ := owned_tree h hnd
  obtain ⟨A1, c1, A2, c2, rfl, wk, wn, hs, hc1, hc2, hr, hks, hc3, hc4, f', hf, hk⟩ := open_tree hl
  injection e0 with _ e0
  injection e0 with _ e0
  injection e0 with _ e0
  injection e0 with _ e0
  injection e0 with e4 e0
  injection e0 with e5 _
  rw [← e4] at o1
  rw [← e5] at o2
  have HA1 := Lib.hid (own_flat o1)
  have HA2 := Lib.hid (own_flat o2)
  have Hlies2 := Lib.hid (o2.lies)
  have hu6 : ∀ u ∈ [u0, u1, u2, u3, u4, u5], u.oneCell' = true := fun u hu => by
    obtain ⟨m, hm, rfl⟩ := List.getElem_of_mem hu
    exact one_of_lie' (hx.2 m _ _ (List.getElem?_eq_getElem hm) (List.getElem?_eq_getElem (by rw [← hx.1]; exact hm)))
  have Hu6 := Lib.hid hu6
  obtain ⟨w1, hw1⟩ : ∃ w1, w1 = ((w.alloc (.cells #[.int .i64 k, .bool fl, .int .i64 n, .string s, .slice A1 ks.length c1, .slice A2 kids.length c2] 27)).alloc (.cells #[u0, u1, u2, u3, u4, u5] 27)).alloc (.cells #[.int .i64 0, .bool false, .int .i64 0, .string ⟨#[]⟩, .slice none 0 0, .slice none 0 0] 27) := ⟨_, rfl⟩
  have hb1 : Below w.heap.size w w1 := by rw [hw1]; exact (((Below.refl _ _).alloc (Nat.le_refl _) _).alloc (by simp) _).alloc (by simp; omega) _
  have hrow : w1.heap[w.heap.size]? = some (.cells #[.int .i64 k, .bool fl, .int .i64 n, .string s, .slice A1 ks.length c1, .slice A2 kids.length c2] 27 (0, 0)) := by
    rw [hw1, Below.heap_alloc _ _ _ (by simp; omega), Below.heap_alloc _ _ _ (by simp)]
    exact heap_alloc_new w _
  have hkidr : w1.heap[w.heap.size + 1]? = some (.cells #[u0, u1, u2, u3, u4, u5] 27 (0, 0)) := by
    rw [hw1, Below.heap_alloc _ _ _ (by simp)]
    have h := heap_alloc_new (w.alloc (.cells #[.int .i64 k, .bool fl, .int .i64 n, .string s, .slice A1 ks.length c1, .slice A2 kids.length c2] 27)) (.cells #[u0, u1, u2, u3, u4, u5] 27)
    simpa using h
  have hres : w1.heap[w.heap.size + 1 + 1]? = some (.cells #[.int .i64 0, .bool false, .int .i64 0, .string ⟨#[]⟩, .slice none 0 0, .slice none 0 0] 27 (0, 0)) := by
    rw [hw1]
    have h := heap_alloc_new ((w.alloc (.cells #[.int .i64 k, .bool fl, .int .i64 n, .string s, .slice A1 ks.length c1, .slice A2 kids.length c2] 27)).alloc (.cells #[u0, u1, u2, u3, u4, u5] 27)) (.cells #[.int .i64 0, .bool false, .int .i64 0, .string ⟨#[]⟩, .slice none 0 0, .slice none 0 0] 27)
    simpa using h
  have hsz0 : size (.mk k fl n s ks kids) ≤ 1099511627776 := by have := size_le_weight (.mk k fl n s ks kids); omega
  have HC := Lib.hid (fun w' (hb : Below w1.heap.size w1 w') => impl_copy f (.mk k fl n s ks kids) _ w' ((hl.below hb1).below hb) hwt)
  have HO := Lib.hid (impl_okay f (.mk k fl n s ks kids) _ w1 (hl.below hb1) hsz0 (hT.below hb1))
  have HT := Lib.hid hT
  have Hrow := Lib.hid hrow
  have Hkid := Lib.hid hkidr
  have Hres := Lib.hid hres
  have Hb1 := Lib.hid hb1
  have Hw1 := Lib.hid hw1
  have Hl := Lib.hid hl
  have Hr := Lib.hid hr
  have Hx := Lib.hid hx
  have Hks := Lib.hid hks
  have Hs := Lib.hid hs
  have Hwn := Lib.hid wn
  have h0 : Below w1.heap.size w1 w1 := Below.refl _ _
  obtain ⟨p0, p1, p2, p3, p4, p5⟩ := Row6.of hrow
  rw [hw1] at p0 p1 p2 p3 p4 p5
  clear h hl hx hT hrow hkidr hres hb1 hw1 hu6 o1 o2 hr hk hks hs wk e4 e5
  by_cases h6 : k = 6
  case neg =>
    have hput : putKid (.mk k fl n s ks kids) key kid = (.mk k fl n s ks kids, false) := by unfold putKid; rw [if_neg (fun e => h6 e.1)]
    rw [hput]
    have e6 : (k == 6) = false := beq_eq_false_iff_ne.2 h6
    have e6' : (k != 6) = true := by simp [h6]
    clear HO
    go_enter Tryd.func6, Tryd.ntmps6
    go_wp2_with fail
    rw [← Hw1.out]
    refine (HC.out w1 h0).mono ?_
    rintro e wz ⟨⟨cs, G, rfl, ho, hnz⟩, hbz⟩
    obtain ⟨x0, x1, x2, x3, x4, x5, rfl⟩ := six_of (ho.1.trans (row_length _))
    have hrz := heap_kept hbz (heap_lt Hres.out) Hres.out
    have Hlt := Lib.hid (heap_lt Hres.out)
    have hone := ho.one
    have Ho := Lib.hid ho
    have Hrz := Lib.hid hrz
    have Hbz := Lib.hid (below_link Hb1.out hbz Hb1.out.size)
    clear ho hbz
    go_wp2_with (first | (refine wpList_store_row rfl 27 _ _ rfl (w.heap.size + 1 + 1) #[x0, x1, x2, x3, x4, x5] rfl rfl 27 _ hrz tree_size' rfl hone ?_) | fail)
    refine bodyPost_ret (v := .tuple #[.agg #[x0, x1, x2, x3, x4, x5], .bool false]) ?_ rfl ⟨⟨_, [x0, x1, x2, x3, x4, x5], G, rfl, (OwnS.kept (fun y hy => ?_) Ho.out).lower (by have := Hlt.out; omega), hnz⟩, setRow_below Hbz.out (by omega) _⟩
    · exact ret_tree2 rfl rfl rfl rfl (setRow_at Hrz.out)
    · have h3 := (Ho.out.range y hy).1
      have h4 := Hlt.out
      simp only [World.setRow, Array.getElem?_modify]
      rw [if_neg (by omega)]
  case pos =>
    subst h6
    by_cases hok : Ok (.mk 6 fl n s ks kids)
    case neg =>
      have hput : putKid (.mk 6 fl n s ks kids) key kid = (.mk 6 fl n s ks kids, false) := by unfold putKid; rw [if_neg (fun e => hok e.2.1)]
      rw [hput]
      rw [show dec (Ok (.mk 6 fl n s ks kids)) = false by unfold dec; simp [hok]] at HO
      go_enter Tryd.func6, Tryd.ntmps6
      go_wp2_with fail
      rw [← Hw1.out]
      refine HO.out.mono ?_
      rintro e w2 ⟨rfl, hb2⟩
      have hrow2 := heap_kept hb2 (heap_lt Hrow.out) Hrow.out
      have Hres2 := Lib.hid (heap_kept hb2 (heap_lt Hres.out) Hres.out)
      have Hb2 := Lib.hid (below_link Hb1.out hb2 Hb1.out.size)
      have HC2 := Lib.hid (HC.out w2 hb2)
      clear p0 p1 p2 p3 p4 p5 HO Hw1 hb2
      obtain ⟨p0, p1, p2, p3, p4, p5⟩ := Row6.of hrow2
      clear hrow2
      go_wp2_with fail
      refine HC2.out.mono ?_
      rintro e wz ⟨⟨cs, G, rfl, ho, hnz⟩, hbz⟩
      obtain ⟨x0, x1, x2, x3, x4, x5, rfl⟩ := six_of (ho.1.trans (row_length _))
      have hrz := heap_kept hbz (heap_lt Hres2.out) Hres2.out
      have Hlt := Lib.hid (heap_lt Hres2.out)
      have hone := ho.one
      have Ho := Lib.hid ho
      have Hrz := Lib.hid hrz
      have Hbz := Lib.hid (below_link Hb2.out hbz Hb2.out.size)
      clear ho hbz
      go_wp2_with (first | (refine wpList_store_row rfl 27 _ _ rfl (w.heap.size + 1 + 1) #[x0, x1, x2, x3, x4, x5] rfl rfl 27 _ hrz tree_size' rfl hone ?_) | fail)
      refine bodyPost_ret (v := .tuple #[.agg #[x0, x1, x2, x3, x4, x5], .bool false]) ?_ rfl ⟨⟨_, [x0, x1, x2, x3, x4, x5], G, rfl, (OwnS.kept (fun y hy => ?_) Ho.out).lower (by have := Hlt.out; omega), hnz⟩, setRow_below Hbz.out (by omega) _⟩
      · exact ret_tree2 rfl rfl rfl rfl (setRow_at Hrz.out)
      · have h3 := (Ho.out.range y hy).1
        have h4 := Hlt.out
        simp only [World.setRow, Array.getElem?_modify]
        rw [if_neg (by omega)]
    case pos =>
      rw [show dec (Ok (.mk 6 fl n s ks kids)) = true by unfold dec; simp [hok]] at HO
      have hsh := hok.2.2
      rw [Shape, shapes_iff] at hsh
      obtain ⟨⟨f1, f2, f3, f4, f5, f6, f7, f8⟩, ht, hko, hkd⟩ := hsh
      have hlen : ks.length = kids.length := f8 rfl
      have hp := pair_of_keys hko
      have hn3 : kids.length ≤ 300 := by
        have h1 := hok.2.1
        have h2 : ∀ l : List T, l.length ≤ sizes l := by
          intro l
          induction l with
          | nil => simp
          | cons a r ih => obtain ⟨k, f, n, s, ks, kids⟩ := a; rw [sizes, size, List.length_cons]; omega
        have := h2 kids
        rw [size] at h1
        omega
      obtain ⟨xs, hxs, hxl⟩ : ∃ xs, RdN w 6 A2 kids.length xs ∧ LiesS w f xs (rows kids) := by
        obtain ⟨f9, rfl⟩ : ∃ f9, f = f9 + 1 := ⟨f', hf⟩
        obtain ⟨xs, h1, h2⟩ := read_row Hlies2.out
        exact ⟨xs, h1, h2.deeper (Nat.le_succ _)⟩
      have HW := Lib.hid (fun w' (hb : Below w.heap.size w w') => show Calls Tryd.prog 20 #[.agg #[.int .i64 6, .bool fl, .int .i64 n, .string s, .slice A1 ks.length c1, .slice A2 kids.length c2], .string key, .agg #[u0, u1, u2, u3, u4, u5]] w' (WithOut 6 fl n s key ks xs [u0, u1, u2, u3, u4, u5] w') from by
        have hf1 : Flat w' A1 c1 := HA1.out.imp id (fun ⟨g, o, e, hg⟩ => ⟨g, o, e, Nat.lt_of_lt_of_le hg hb.size⟩)
        have hf2 : Flat w' A2 c2 := HA2.out.imp id (fun ⟨g, o, e, hg⟩ => ⟨g, o, e, Nat.lt_of_lt_of_le hg hb.size⟩)
        have h := impl_with 6 fl n s ks kids.length A1 A2 c1 c2 u0 u1 u2 u3 u4 u5 xs key w' hlen (by omega) hc2 (by rw [← hlen]; exact Hr.out.below hb) hp (by omega) hc3 hc4 hf1 hf2 (hxs.below hb) Hu6.out
        rw [← hlen] at h ⊢
        exact h)
      have Hok := Lib.hid hok
      have Hlen := Lib.hid hlen
      have Hp := Lib.hid hp
      have Hxl := Lib.hid hxl
      have Hsz := Lib.hid (show ks.length ≤ 300 by omega)
      obtain ⟨R, hR⟩ : ∃ R, putKid (.mk 6 fl n s ks kids) key kid = R := ⟨_, rfl⟩
      rw [hR]
      have HRR := Lib.hid hR
      clear hxs hxl hp hko hkd ht f1 f2 f3 f4 f5 f6 f7 f8 hlen hR
      go_enter Tryd.func6, Tryd.ntmps6
      go_wp2_with fail
      rw [← Hw1.out]
      refine HO.out.mono ?_
      rintro e w2 ⟨rfl, hb2⟩
      have hrow2 := heap_kept hb2 (heap_lt Hrow.out) Hrow.out
      have hkid2 := heap_kept hb2 (heap_lt Hkid.out) Hkid.out
      have Hrow2 := Lib.hid hrow2
      have Hres2 := Lib.hid (heap_kept hb2 (heap_lt Hres.out) Hres.out)
      have Hb2 := Lib.hid (below_link Hb1.out hb2 Hb1.out.size)
      have Hb12 := Lib.hid hb2
      have HW2 := Lib.hid (HW.out w2 Hb2.out)
      clear p0 p1 p2 p3 p4 p5 HO Hw1 hb2 HW
      obtain ⟨p0, p1, p2, p3, p4, p5⟩ := Row6.of hrow2
      obtain ⟨q0, q1, q2, q3, q4, q5⟩ := Row6.of hkid2
      clear hrow2 hkid2
      go_wp2_with fail
      refine HW2.out.mono ?_
      rintro e w3 ⟨i, N, Av, cv, Bv, dv, hi, hlo, hhi, hN, rfl, hok1, hok2, hb3⟩
      obtain ⟨ch, hch⟩ : ∃ ch, ch = T.mk 6 fl n s (ks.take i ++ key :: ks.drop (behind ks key i)) (kids.take i ++ kid :: kids.drop (behind ks key i)) := ⟨_, rfl⟩
      have hbeh : i ≤ behind ks key i := by unfold behind; split <;> omega
      have hb03 := below_link Hb2.out hb3 Hb2.out.size
      have hLch : LiesS w3 (f + f2 + 2) [.int .i64 6, .bool fl, .int .i64 n, .string s, .slice Av N cv, .slice Bv N dv] (row ch) := by
        rw [hch]
        exact with_lies Hwn.out Hs.out Hks.out (Nat.le_trans hkey (by simp [maxLen])) ((Hxl.out.below hb03).deeper (Nat.le_add_right _ _)) ((Hx.out.below hb03).deeper (Nat.le_add_left _ _)) Hlen.out hi hN hok1 hok2
      have hwch : weight ch ≤ 3145731 := by
        have := weight_put (ks := ks) (kids := kids) (k := 6) (fl := fl) (n := n) (s := s) (key := key) (kid := kid) (i := i) (a := behind ks key i) hbeh
        rw [hch]; omega
      have hput : putT (.mk 6 fl n s ks kids) key kid = ch := by
        have h9 := putT_cut (t := .mk 6 fl n s ks kids) (key := key) (kid := kid) (i := i) Hlen.out Hp.out hi hlo hhi
        rw [h9, hch]
        have hsh := Hok.out.2.2
        rw [Shape] at hsh
        obtain ⟨⟨_, _, g3, g4, g5, _⟩, _⟩ := hsh
        have e1 : fl = false := by cases fl with | false => rfl | true => exact absurd (g3 rfl) (by decide)
        have e2 : n = 0 := Classical.byContradiction fun h => absurd (g4 h) (by decide)
        have e3 : s = ⟨#[]⟩ := by
          have : s.size = 0 := by
            rcases Nat.eq_zero_or_pos s.size with h | h
            · exact h
            · exact absurd (g5 h) (by decide)
          exact ByteArray.size_eq_zero_iff.1 this
        subst e1; subst e2; subst e3
        rfl
      obtain ⟨w4, hw4⟩ : ∃ w4, w4 = w3.alloc (.cells #[.int .i64 6, .bool fl, .int .i64 n, .string s, .slice Av N cv, .slice Bv N dv] 27) := ⟨_, rfl⟩
      have hb4 : Below w3.heap.size w3 w4 := by rw [hw4]; exact (Below.refl _ _).alloc (Nat.le_refl _) _
      have hch4 : w4.heap[w3.heap.size]? = some (.cells #[.int .i64 6, .bool fl, .int .i64 n, .string s, .slice Av N cv, .slice Bv N dv] 27 (0, 0)) := by rw [hw4]; exact heap_alloc_new w3 _
      have hb24 := below_link hb3 hb4 hb3.size
      have Hb4 := Lib.hid (below_link Hb2.out hb24 Hb2.out.size)
      have Hb14 := Lib.hid (below_link Hb12.out hb24 Hb12.out.size)
      have Hrow4 := Lib.hid (heap_kept hb24 (heap_lt Hrow2.out) Hrow2.out)
      have Hres4 := Lib.hid (heap_kept hb24 (heap_lt Hres2.out) Hres2.out)
      have Hch4 := Lib.hid hch4
      have HLch := Lib.hid (hLch.below hb4)
      have HO2 := Lib.hid (impl_okay _ ch _ w4 HLch.out (by have := size_le_weight ch; omega) (HT.out.below Hb4.out))
      have hone : (#[.int .i64 6, .bool fl, .int .i64 n, .string s, .slice Av N cv, .slice Bv N dv] : Array Value).all (·.oneCell') = true := by simp [Value.oneCell']
      obtain ⟨r0, r1, r2, r3, r4, r5⟩ := Row6.of hch4
      rw [hw4] at r0 r1 r2 r3 r4 r5
      have Hw4 := Lib.hid hw4
      have Hput := Lib.hid hput
      have Hwch := Lib.hid hwch
      clear hN p0 p1 p2 p3 p4 p5 q0 q1 q2 q3 q4 q5 hok1 hok2 hb3 hb4 hb24 hb03 hLch hch hch4 hw4 hput hwch hlo hhi HW2 Hrow2 Hres2 Hb2 Hb12
      by_cases hokc : Ok ch
      case neg =>
        have hpk : putKid (.mk 6 fl n s ks kids) key kid = (.mk 6 fl n s ks kids, false) := by unfold putKid; rw [if_neg (fun e => hokc (by rw [← Hput.out]; exact e.2.2))]
        have hRR := HRR.out.symm.trans hpk
        clear HRR hpk
        subst hRR
        rw [show dec (Ok ch) = false by unfold dec; simp [hokc]] at HO2
        go_wp2_with (first | (refine wpList_store_row rfl 27 _ _ rfl w3.heap.size #[.int .i64 6, .bool fl, .int .i64 n, .string s, .slice Av N cv, .slice Bv N dv] rfl rfl 27 _ (heap_alloc_new w3 _) tree_size' rfl hone ?_; rw [World.setRow_alloc_new]) | fail)
        rw [← Hw4.out]
        refine HO2.out.mono ?_
        rintro e w5 ⟨rfl, hb5⟩
        have hrow5 := heap_kept hb5 (heap_lt Hrow4.out) Hrow4.out
        have Hres5 := Lib.hid (heap_kept hb5 (heap_lt Hres4.out) Hres4.out)
        have Hb5 := Lib.hid (below_link Hb4.out hb5 Hb4.out.size)
        have HC5 := Lib.hid (HC.out w5 (below_link Hb14.out hb5 Hb14.out.size))
        clear r0 r1 r2 r3 r4 r5 HO2 Hw4 hb5
        obtain ⟨p0, p1, p2, p3, p4, p5⟩ := Row6.of hrow5
        clear hrow5
        go_wp2_with fail
        refine HC5.out.mono ?_
        rintro e wz ⟨⟨cs, G, rfl, ho, hnz⟩, hbz⟩
        obtain ⟨x0, x1, x2, x3, x4, x5, rfl⟩ := six_of (ho.1.trans (row_length _))
        have hrz := heap_kept hbz (heap_lt Hres5.out) Hres5.out
        have Hlt := Lib.hid (heap_lt Hres5.out)
        have hone := ho.one
        have Ho := Lib.hid ho
        have Hrz := Lib.hid hrz
        have Hbz := Lib.hid (below_link Hb5.out hbz Hb5.out.size)
        clear ho hbz
        go_wp2_with (first | (refine wpList_store_row rfl 27 _ _ rfl (w.heap.size + 1 + 1) #[x0, x1, x2, x3, x4, x5] rfl rfl 27 _ hrz tree_size' rfl hone ?_) | fail)
        refine bodyPost_ret (v := .tuple #[.agg #[x0, x1, x2, x3, x4, x5], .bool false]) ?_ rfl ⟨⟨_, [x0, x1, x2, x3, x4, x5], G, rfl, (OwnS.kept (fun y hy => ?_) Ho.out).lower (by have := Hlt.out; omega), hnz⟩, setRow_below Hbz.out (by omega) _⟩
        · exact ret_tree2 rfl rfl rfl rfl (setRow_at Hrz.out)
        · have h3 := (Ho.out.range y hy).1
          have h4 := Hlt.out
          simp only [World.setRow, Array.getElem?_modify]
          rw [if_neg (by omega)]
      case pos =>
        have hpk : putKid (.mk 6 fl n s ks kids) key kid = (ch, true) := by unfold putKid; rw [if_pos ⟨rfl, Hok.out, by rw [Hput.out]; exact hokc⟩, Hput.out]
        have hRR := HRR.out.symm.trans hpk
        clear HRR hpk
        subst hRR
        rw [show dec (Ok ch) = true by unfold dec; simp [hokc]] at HO2
        have hwc2 : weight ch ≤ 1048576 := by have h1 := ok_weight ch hokc.2.2; have h2 := hokc.2.1; omega
        go_wp2_with (first | (refine wpList_store_row rfl 27 _ _ rfl w3.heap.size #[.int .i64 6, .bool fl, .int .i64 n, .string s, .slice Av N cv, .slice Bv N dv] rfl rfl 27 _ (heap_alloc_new w3 _) tree_size' rfl hone ?_; rw [World.setRow_alloc_new]) | fail)
        rw [← Hw4.out]
        refine HO2.out.mono ?_
        rintro e w5 ⟨rfl, hb5⟩
        have hch5 := heap_kept hb5 (heap_lt Hch4.out) Hch4.out
        have Hres5 := Lib.hid (heap_kept hb5 (heap_lt Hres4.out) Hres4.out)
        have Hb5 := Lib.hid (below_link Hb4.out hb5 Hb4.out.size)
        have HC5 := Lib.hid (impl_copy _ ch _ w5 (HLch.out.below hb5) hwc2)
        clear r0 r1 r2 r3 r4 r5 HO2 Hw4 hb5
        obtain ⟨p0, p1, p2, p3, p4, p5⟩ := Row6.of hch5
        clear hch5
        go_wp2_with fail
        refine HC5.out.mono ?_
        rintro e wz ⟨⟨cs, G, rfl, ho, hnz⟩, hbz⟩
        obtain ⟨x0, x1, x2, x3, x4, x5, rfl⟩ := six_of (ho.1.trans (row_length _))
        have hrz := heap_kept hbz (heap_lt Hres5.out) Hres5.out
        have Hlt := Lib.hid (heap_lt Hres5.out)
        have hone := ho.one
        have Ho := Lib.hid ho
        have Hrz := Lib.hid hrz
        have Hbz := Lib.hid (below_link Hb5.out hbz Hb5.out.size)
        clear ho hbz
        go_wp2_with (first | (refine wpList_store_row rfl 27 _ _ rfl (w.heap.size + 1 + 1) #[x0, x1, x2, x3, x4, x5] rfl rfl 27 _ hrz tree_size' rfl hone ?_) | fail)
        refine bodyPost_ret (v := .tuple #[.agg #[x0, x1, x2, x3, x4, x5], .bool true]) ?_ rfl ⟨⟨_, [x0, x1, x2, x3, x4, x5], G, rfl, (OwnS.kept (fun y hy => ?_) Ho.out).lower (by have := Hlt.out; omega), hnz⟩, setRow_below Hbz.out (by omega) _⟩
        · exact ret_tree2 rfl rfl rfl rfl (setRow_at Hrz.out)
        · have h3 := (Ho.out.range y hy).1
          have h4 := Hlt.out
          simp only [World.setRow, Array.getElem?_modify]
          rw [if_neg (by omega)]
end Go.Proofs.YtfggpcahfpjgmaaDoor.tree
