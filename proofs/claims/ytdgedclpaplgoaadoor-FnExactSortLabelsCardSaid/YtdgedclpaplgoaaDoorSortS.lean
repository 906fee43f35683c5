/- spec.SortLabels. -/
import Derived.Test.YtdgedclpaplgoaaDoorGA7
import Derived.Test.YtdgedclpaplgoaaDoorGA5
import Derived.Test.YtdgedclpaplgoaaDoorLabI
import Derived.Deep.RegionLaw
namespace Go.Proofs.YtdgedclpaplgoaaDoor.lab
open Go.ChangeShapes Go.WideShapes Go.ChangeAt Go.RowKit ty
set_option linter.unusedVariables false

/-- The first append of the region: onto a new slice that is empty. -/
theorem step_first {ops : Array Oper} {o : Oper} {a : Act} {X wd : World} {K : Act → World → Prop} {Q : Exit → Act → World → Prop} {E : Prop}
    (hg : o.guard = none) (hop : o.op = Op.call { callee := Callee.builtin Builtin.append, args := #[.tmp 42, .tmp 45], argTypes := #[24, 24] })
    (b : Nat) (hs : a.eval (.tmp 42) = .slice (some ⟨b, 0, none⟩) 0 0) (hX : Below wd.heap.size wd X) (hown : X.ownsRow wd.heap.size 35 2 (.slice (some ⟨b, 0, none⟩) 0 0) 0 [])
    (A : Option Addr) (k c : Nat) (news : List Label) (hx : a.eval (.tmp 45) = .slice A k c) (hr : RdK wd A k 2 (lvals news)) (hk : k ≤ 64)
    (hK : ∀ v' w', w'.ownsRow wd.heap.size 35 2 v' k (lvals news) → Below wd.heap.size wd w' → X.heap.size ≤ w'.heap.size → (∀ q, q < X.heap.size → q ≠ b → w'.heap[q]? = X.heap[q]?) → K (a.put o.dst v') w') :
    if Region.wanted o (yielded ops a.tmps) = true then Oper.wp Tryd.prog o a X K Q else E := by
  obtain ⟨i0, hi, hz0, hz1, hz2⟩ := info_parts TrydinfoLab
  refine step_append_rdk hg (.tmp 42) (.tmp 45) 24 hop wd.heap.size 35 i0 _ 2 32 Tryd.underlying24 hi hz0 hz1 hz2 rfl (by decide) _ 0 [] hs hown A k c (lvals news) hx (hr.below hX) (lvals_ones _) (by unfold maxLen; omega) (by omega) hX.size ?_
  intro v' w' h1 h2 h3
  rw [Nat.zero_add, List.nil_append] at h1
  refine hK v' w' h1 (hX.grown h2 hX.size (fun q hq => (hown.lt q hq).1)) h2.size (fun q hq hb => h2.block q hq (fun e => hb (by simp [Value.ownBlock] at e; omega)))
/-- The second one: of one label. -/
theorem step_second {ops : Array Oper} {o : Oper} {a : Act} {Y wd : World} {K : Act → World → Prop} {Q : Exit → Act → World → Prop} {E : Prop}
    (hg : o.guard = none) (hop : o.op = Op.call { callee := Callee.builtin Builtin.append, args := #[.tmp 46, .tmp 51], argTypes := #[24, 24] })
    (v : Value) (k : Nat) (news : List Label) (x : Label) (hs : a.eval (.tmp 46) = v) (hY : Below wd.heap.size wd Y) (hown : Y.ownsRow wd.heap.size 35 2 v k (lvals news))
    (A : Option Addr) (hx : a.eval (.tmp 51) = .slice A 1 1) (hr : RdK Y A 1 2 x.cells) (hk : k ≤ 64)
    (hK : ∀ v' w', w'.ownsRow wd.heap.size 35 2 v' (k + 1) (lvals (news ++ [x])) → Below wd.heap.size wd w' → K (a.put o.dst v') w') :
    if Region.wanted o (yielded ops a.tmps) = true then Oper.wp Tryd.prog o a Y K Q else E := by
  obtain ⟨i0, hi, hz0, hz1, hz2⟩ := info_parts TrydinfoLab
  refine step_append_rdk hg (.tmp 46) (.tmp 51) 24 hop wd.heap.size 35 i0 _ 2 32 Tryd.underlying24 hi hz0 hz1 hz2 rfl (by decide) v k _ hs hown A 1 1 x.cells hx hr (by intro u hu; simp [Label.cells] at hu; rcases hu with rfl | rfl <;> rfl) (by unfold maxLen; omega) (by omega) hY.size ?_
  intro v' w' h1 h2 h3
  rw [← lvals_one, ← lvals_append] at h1
  exact hK v' w' h1 (hY.grown h2 hY.size (fun q hq => (hown.lt q hq).1))
theorem own_pos {w : World} {B : Nat} {e : TypeId} {size n : Nat} {v : Value} {xs : List Value} (h : w.ownsRow B e size v n xs) (hn : 0 < n) : ∃ g c, v = .slice (some ⟨g, 0, none⟩) n c := by
  rcases h.2 with ⟨_, h⟩ | ⟨g, cap, cur, rfl, _⟩
  · omega
  · exact ⟨g, cap, rfl⟩
theorem lit1 (w : World) : ((w.alloc (.cells #[] 35)).drew).ownsRow w.heap.size 35 2 (.slice (some ⟨w.heap.size, 0, none⟩) 0 0) 0 [] :=
  World.ownsRow_lit w #[] 0 (Nat.le_refl _) (by simp [maxLen]) rfl
theorem bel1 (w : World) (o : Obj) : Below w.heap.size w ((w.alloc o).drew) := ((Below.refl _ _).alloc (Nat.le_refl _) _).drew
theorem bel2 (w : World) (o p : Obj) : Below w.heap.size w (((w.alloc o).alloc p).drew) := (((Below.refl _ _).alloc (Nat.le_refl _) _).alloc (by simp) _).drew
theorem lit2 (w : World) (p : Obj) : (((w.alloc (.cells #[] 35)).alloc p).drew).ownsRow w.heap.size 35 2 (.slice (some ⟨w.heap.size, 0, none⟩) 0 0) 0 [] :=
  own_below' (World.ownsRow_lit w #[] 0 (Nat.le_refl _) (by simp [maxLen]) rfl) ((Below.refl _ _).alloc (Nat.le_refl _) p).drew
theorem lit3 (w : World) (p : Obj) : (((w.alloc p).alloc (.cells #[] 35)).drew).ownsRow w.heap.size 35 2 (.slice (some ⟨w.heap.size + 1, 0, none⟩) 0 0) 0 [] := by
  have e : w.heap.size + 1 = (w.alloc p).heap.size := by simp
  rw [e]
  exact own_lower' (World.ownsRow_lit (w.alloc p) #[] 0 (Nat.le_refl _) (by simp [maxLen]) rfl) (by simp)
theorem rdk_row {w : World} {b : Nat} {x y : ByteArray} (h : w.heap[b]? = some (.cells #[.string x, .string y] 35 (0, 0))) : RdK w (some ⟨b, 0, none⟩) 1 2 [.string x, .string y] := by
  refine ⟨rfl, fun _ => ⟨b, 0, rfl, heap_lt h, fun j u hu => ?_⟩⟩
  rw [Nat.zero_add, cell_of_row _ _ _ _ _ _ h]
  simpa using hu
theorem rdk2 {w w' : World} {o : Obj} {x y : ByteArray} (h : ∀ q, q < (((w.alloc o).alloc (.cells #[.string x, .string y] 35)).drew).heap.size → q ≠ w.heap.size → w'.heap[q]? = (((w.alloc o).alloc (.cells #[.string x, .string y] 35)).drew).heap[q]?) : RdK w' (some ⟨w.heap.size + 1, 0, none⟩) 1 2 [.string x, .string y] := by
  refine rdk_row ((h _ (by show _ < ((w.alloc o).alloc _).heap.size; simp) (by omega)).trans ?_)
  have := heap_alloc_new (w.alloc o) (.cells #[.string x, .string y] 35)
  have e : (w.alloc o).heap.size = w.heap.size + 1 := by simp
  rw [e] at this
  exact this
theorem rdk3 {w w' : World} {o : Obj} {x y : ByteArray} (h : ∀ q, q < (((w.alloc (.cells #[.string x, .string y] 35)).alloc o).drew).heap.size → q ≠ w.heap.size + 1 → w'.heap[q]? = (((w.alloc (.cells #[.string x, .string y] 35)).alloc o).drew).heap[q]?) : RdK w' (some ⟨w.heap.size, 0, none⟩) 1 2 [.string x, .string y] := by
  refine rdk_row ((h _ (by show _ < ((w.alloc _).alloc o).heap.size; simp <;> omega) (by omega)).trans ?_)
  have e : w.heap.size < (w.alloc (.cells #[.string x, .string y] 35)).heap.size := by simp
  exact (Below.heap_alloc (w.alloc (.cells #[.string x, .string y] 35)) o w.heap.size e).trans (heap_alloc_new w _)
theorem rdk_lit (w : World) (x y : ByteArray) : RdK (w.alloc (.cells #[.string x, .string y] 35)) (some ⟨w.heap.size, 0, none⟩) 1 2 [.string x, .string y] := by
  refine ⟨rfl, fun _ => ⟨_, 0, rfl, by simp, fun j u hu => ?_⟩⟩
  rw [Nat.zero_add, cell_of_row _ _ _ _ _ _ (heap_alloc_new w _)]
  simpa using hu

set_option maxRecDepth 1000000 in
set_option maxHeartbeats 8000000 in
theorem spec_sort (l : List Label) (f : Nat) (v : Value) (w : World) (h : Lies w f v (.sl 2 l.length (l.flatMap Label.row))) (hz : Small l) (hn : l.length ≤ 1048576) :
    Calls Tryd.prog 10 #[v] w fun e w' => ListOut w w' e 2 Label.row (sortF l) := by
  obtain ⟨A, c, rfl, hc1, hc2, f', rfl, hk⟩ := els_of Label.row_length h
  unfold maxLen at hc2
  obtain ⟨hrd, hwf⟩ := rdk_of_els hk
  obtain ⟨i0, hi, hz0, hz1, hz2⟩ := info_parts TrydinfoLab
  obtain ⟨w1, hw1⟩ : ∃ w1, w1 = w.alloc (.cells #[] 35) := ⟨_, rfl⟩
  have hb1 : Below w.heap.size w w1 := by rw [hw1]; exact (Below.refl _ _).alloc (Nat.le_refl _) _
  have hown1 : w1.ownsRow w.heap.size 35 2 (.slice (some ⟨w.heap.size, 0, none⟩) 0 0) 0 [] := by rw [hw1]; exact World.ownsRow_lit w #[] 0 (Nat.le_refl _) (by simp [maxLen]) rfl
  have Hw1 := Lib.hid hw1
  have Hown1 := Lib.hid hown1
  have Hrd1 := Lib.hid (hrd.below hb1)
  have Hb1 := Lib.hid hb1
  have Hk := Lib.hid hk
  have Hwf := Lib.hid hwf
  have Hz := Lib.hid hz
  clear h hk hw1 hown1 hb1 hrd hwf hz
  by_cases h6 : 6 < l.length
  · rw [sort_no (by omega)]
    go_enter Tryd.func10, Tryd.ntmps10
    go_wp2_with (first | (rw [← Hw1.out]; refine wpList_append_rdk rfl (.tmp 9) (.tmp 10) 24 rfl w.heap.size 35 i0 _ 2 32 Tryd.underlying24 hi hz0 hz1 hz2 rfl (by decide) _ 0 [] rfl Hown1.out A l.length c (lvals l) rfl Hrd1.out (lvals_ones l) (by unfold maxLen; omega) (by omega) Hb1.out.size ?_) | fail)
    intro v2 w2 hown2 hg2 hat2
    have Hb2 := Lib.hid (Hb1.out.grown hg2 Hb1.out.size (fun b hb => by simp [Value.ownBlock] at hb; omega))
    obtain ⟨F, ho, hnd, hrg⟩ := own_lvals hown2 Hwf.out
    obtain ⟨A2, c2, rfl⟩ := own_is_slice hown2
    have HR := Lib.hid (show ListOut w w2 (.returned (.tuple #[.slice A2 l.length c2, .bool false])) 2 Label.row (l, false) from ⟨_, 1, F, rfl, ho, hnd, Hb2.out⟩)
    clear hown2 hg2 hat2 ho hnd hrg
    go_wp2_with fail
    go_ret2
    exact HR.out
  go_enter Tryd.func10, Tryd.ntmps10
  go_wp2_with (first | (rw [← Hw1.out]; refine wpList_append_rdk rfl (.tmp 9) (.tmp 10) 24 rfl w.heap.size 35 i0 _ 2 32 Tryd.underlying24 hi hz0 hz1 hz2 rfl (by decide) _ 0 [] rfl Hown1.out A l.length c (lvals l) rfl Hrd1.out (lvals_ones l) (by unfold maxLen; omega) (by omega) Hb1.out.size ?_) | fail)
  intro v2 w2 hown2 hg2 hat2
  have hb2 := Hb1.out.grown hg2 Hb1.out.size (fun b hb => by simp [Value.ownBlock] at hb; omega)
  obtain ⟨A2, c2, rfl⟩ := own_is_slice hown2
  obtain ⟨w3, hw3⟩ : ∃ w3, w3 = w2.alloc (.cells #[] 35) := ⟨_, rfl⟩
  have hb3 : Below w2.heap.size w2 w3 := by rw [hw3]; exact (Below.refl _ _).alloc (Nat.le_refl _) _
  have hown3 : w3.ownsRow w2.heap.size 35 2 (.slice (some ⟨w2.heap.size, 0, none⟩) 0 0) 0 [] := by rw [hw3]; exact World.ownsRow_lit w2 #[] 0 (Nat.le_refl _) (by simp [maxLen]) rfl
  have Hown2 := Lib.hid hown2
  have Hown3 := Lib.hid hown3
  have Hb2 := Lib.hid hb2
  have Hb3 := Lib.hid hb3
  have Hw3 := Lib.hid hw3
  have hge : w.heap.size ≤ w2.heap.size := hb2.size
  clear hown2 hown3 hg2 hat2 hb2 hb3 hw3 Hw1 Hown1 Hrd1 Hb1
  go_wp2_with fail
  rw [← Hw3.out]
  go_loopw [5, 6] (fun vo i wr => ∃ (j g cg : Nat), j ≤ l.length ∧ i = .int .i64 j ∧ vo = .slice (some ⟨g, 0, none⟩) j cg ∧ wr.ownsRow w2.heap.size 35 2 (.slice (some ⟨g, 0, none⟩) j cg) j (lvals (sorted (l.take j))) ∧ Below w2.heap.size w2 wr) (fun _ i _ => l.length - (intOf i).toNat)
  case atStart => exact ⟨0, w2.heap.size, 0, Nat.zero_le _, rfl, rfl, by simpa [sorted, lvals] using Hown3.out, Hb3.out⟩
  case round =>
    clear Hown3 Hw3 Hb3
    obtain ⟨wo, rfl⟩ : ∃ wo, wo = wr := ⟨_, rfl⟩
    obtain ⟨j, g, cg, hj, rfl, rfl, hown, hbel⟩ := hrel
    obtain ⟨S, hS⟩ : ∃ S, S = sorted (l.take j) := ⟨_, rfl⟩
    have hSS := hS
    rw [← hS] at hown
    have hSl : S.length = j := by rw [hS, sorted_length, List.length_take]; omega
    by_cases hlt : j < l.length
    · have hbw : Below w.heap.size w wo := below_link Hb2.out hbel Hb2.out.size
      obtain ⟨g1, o1, rfl, hg1, us, hus, hcc, hls⟩ := (Hk.out.below hbw).get hlt
      obtain ⟨rfl, hwfx⟩ := Label.opened hls
      have q0 : wo.cell? ⟨g1, o1 + j * 2, none⟩ = some (.string l[j].key) := hcc 0 _ rfl
      have q1 : wo.cell? ⟨g1, o1 + j * 2 + 1, none⟩ = some (.string l[j].value) := hcc 1 _ rfl
      have hSn : sorted (l.take (j + 1)) = ins l[j] S := by rw [List.take_succ_eq_append_getElem hlt, sorted_snoc, hS]
      have HSn := Lib.hid hSn
      have HSl := Lib.hid hSl
      obtain ⟨hcg1, hcg2⟩ : j ≤ cg ∧ cg ≤ 9223372036854775807 := by
        obtain ⟨c', e, h1, h2, _⟩ := own_some hown rfl
        injection e with _ _ e
        subst e
        exact ⟨h1, h2⟩
      have Hown := Lib.hid hown
      have Hbel := Lib.hid hbel
      have hglt : g < wo.heap.size := (hown.lt g rfl).2
      have hgge : w2.heap.size ≤ g := (hown.lt g rfl).1
      have hrows : ∀ q (h : q < S.length), wo.cell? ⟨g, q * 2, none⟩ = some (.string S[q].key) := fun q h => by
        have := hown.cells (g := g) rfl (q * 2) (.string S[q].key) (by
          have := flat_get' (f := Label.cells) (sz := 2) (fun _ => rfl) S q 0 _ (List.getElem?_eq_getElem h) (by omega)
          simpa [lvals, Label.cells] using this)
        rwa [Addr.add_lit, Nat.zero_add] at this
      have Hrows := Lib.hid hrows
      clear hrows hown hbel hcc hls hus hwfx hS hSn hSl hSS
      obtain ⟨x, hx⟩ : ∃ x, x = l[j] := ⟨_, rfl⟩
      rw [← hx] at q0 q1 HSn
      clear hx
      go_wp2_with fail
      go_loopw [7] (fun kv wi => ∃ k : Nat, k ≤ j ∧ kv = .int .i64 k ∧ Hid (∀ q (h : q < k) (h2 : q < S.length), lessB x.key S[q].key = false) ∧ ∃ n, wi = wo.drewN n) (fun kv _ => j - (intOf kv).toNat)
      case atStart => exact ⟨0, Nat.zero_le _, rfl, fun q h => by omega, 0, rfl⟩
      case round =>
        obtain ⟨wi, rfl⟩ : ∃ wi, wi = wr := ⟨_, rfl⟩
        obtain ⟨k, hkj, rfl, hall, n0, hwi⟩ := hrel
        have Hwi : Hid (∃ n, wi = wo.drewN n) := ⟨n0, hwi⟩
        have p0 : wi.cell? ⟨g1, o1 + j * 2, none⟩ = some (.string x.key) := by rw [hwi]; exact q0
        have p1 : wi.cell? ⟨g1, o1 + j * 2 + 1, none⟩ = some (.string x.value) := by rw [hwi]; exact q1
        by_cases hkl : k < j
        · have hkS : k < S.length := by rw [HSl.out]; exact hkl
          have r0 : wi.cell? ⟨g, k * 2, none⟩ = some (.string S[k].key) := by rw [hwi]; exact Hrows.out k hkS
          clear hwi
          cases hb : lessB x.key S[k].key with
          | false =>
            have Hnx : Hid (∀ q (h : q < k + 1) (h2 : q < S.length), lessB x.key S[q].key = false) := fun q h h2 => by
              by_cases e : q = k
              · subst e; exact hb
              · exact hall.out q (by omega) h2
            unfold lessB at hb
            have hb := (leq_not _ _).trans (congrArg Bool.not hb)
            clear hall
            generalize S[k].key = z at r0 hb
            go_wp2_with fail
            go_quiet (fail)
            go_wp2_with fail
            go_roundw
            case rel => exact ⟨k + 1, by omega, by go_num, Hnx.out, drew_of Hwi.out _⟩
            case measure => simp [intOf]; omega
          | true =>
            have Hins := Lib.hid (ins_at (by omega) (fun q h => hall.out q h (by omega)) (fun h => hb))
            clear hall
            unfold lessB at hb
            have hb := (leq_not _ _).trans (congrArg Bool.not hb)
            generalize S[k].key = z at r0 hb
            go_wp2_with fail
            go_quiet (fail)
            clear hb r0
            obtain ⟨wd, hwd⟩ : ∃ wd, wd = wi.drewN nq := ⟨_, rfl⟩
            have hbd : Below wo.heap.size wo wd := by
              obtain ⟨n, hn⟩ := drew_of Hwi.out nq
              rw [hwd, hn]
              exact below_drewN (Below.refl _ _) n
            have hownd := own_below' Hown.out hbd
            have hrd1 := own_rdk hownd 0 0 k (by omega) (by omega)
            rw [Nat.zero_mul, List.drop_zero, lvals_take] at hrd1
            have e0 : wd.cell? ⟨g1, o1 + j * 2, none⟩ = some (.string x.key) := by rw [hwd]; exact p0
            have e1 : wd.cell? ⟨g1, o1 + j * 2 + 1, none⟩ = some (.string x.value) := by rw [hwd]; exact p1
            have Hrd1 := Lib.hid hrd1
            have Hownd := Lib.hid hownd
            have Hbd := Lib.hid hbd
            rw [← hwd]
            clear hwd hbd hownd hrd1 p0 p1
            go_wp2_with fail
            have hk64 : k ≤ 64 := by omega
            have hkc : k ≤ cg := by omega
            have hkj0 : k ≤ j := by omega
            have hg1d : g1 < wd.heap.size := Nat.lt_of_lt_of_le hg1 Hbd.out.size
            obtain ⟨xk, hxk⟩ : ∃ y, y = x.key := ⟨_, rfl⟩
            obtain ⟨xv, hxv⟩ : ∃ y, y = x.value := ⟨_, rfl⟩
            rw [← hxk] at e0
            rw [← hxv] at e1
            have Hx : Hid ((⟨xk, xv⟩ : Label) = x) := by rw [hxk, hxv]; rfl
            clear hxk hxv
            go_region_law (first
              | (refine step_first (wd := wd) rfl rfl _ rfl ?_ ?_ (some ⟨g, 0, none⟩) k cg (S.take k) rfl Hrd1.out hk64 ?_
                 · first | exact bel1 _ _ | exact bel2 _ _ _
                 · first | exact lit1 _ | exact lit2 _ _ | exact lit3 _ _
                 intro v5 w5 hown5 hb5 hs5 hkeep5
                 have e05 := (World.cell?_of_block (hb5.block g1 hg1d)).trans e0
                 have e15 := (World.cell?_of_block (hb5.block g1 hg1d)).trans e1
                 first | have hr5 := rdk2 hkeep5 | have hr5 := rdk3 hkeep5 | skip)
              | (refine step_second (wd := wd) rfl rfl _ k (S.take k) ⟨xk, xv⟩ rfl ?_ ?_ (some ⟨_, 0, none⟩) rfl ?_ hk64 ?_
                 · first | exact hb5 | exact hb5.alloc hb5.size _
                 · first | exact hown5 | exact own_below' hown5 ((Below.refl _ _).alloc (Nat.le_refl _) _)
                 · first | exact hr5 | exact rdk_lit w5 _ _
                 intro v6 w6 hown6 hb6))
            all_goals
              obtain ⟨g6, c6, rfl⟩ := own_pos hown6 (by omega)
              have hrd2 := (own_rdk Hownd.out k (k * 2) (j - k) rfl (by omega)).below hb6
              rw [lvals_drop, List.take_of_length_le (by rw [lvals_length, List.length_drop, HSl.out]; exact Nat.le_refl _)] at hrd2
              have Hrd2 := Lib.hid hrd2
              have Hown6 := Lib.hid hown6
              have Hb6 := Lib.hid hb6
              have Hb06 := Lib.hid (below_link Hbel.out (below_link Hbd.out hb6 Hbd.out.size) Hbel.out.size)
              have hwd2 : w2.heap.size ≤ wd.heap.size := Nat.le_trans Hbel.out.size Hbd.out.size
              have hsz6 : w2.heap.size ≤ w6.heap.size := Hb06.out.size
              have hdr : S.length = j := HSl.out
              clear hrd2 hown6 hb6 hown5 hb5 hs5 hkeep5 e05 e15 e0 e1
              go_wp2_with (first | (refine wpList_append_rdk rfl (.tmp 53) (.tmp 56) 24 rfl wd.heap.size 35 i0 _ 2 32 Tryd.underlying24 hi hz0 hz1 hz2 rfl (by decide) _ (k + 1) _ rfl Hown6.out _ (j - k) _ (lvals (S.drop k)) rfl (Hrd2.out) (lvals_ones _) (by unfold maxLen; omega) (by omega) Hb6.out.size ?_) | fail)
              all_goals
                intro v7 w7 h7 hg7 hat7
                have en : k + 1 + (j - k) = j + 1 := by omega
                have e7 : lvals (S.take k ++ [⟨xk, xv⟩]) ++ lvals (S.drop k) = lvals (sorted (l.take (j + 1))) := by
                  rw [HSn.out, Hins.out, Hx.out]
                  rw [← lvals_append, List.append_assoc]; rfl
                rw [e7] at h7
                try rw [en] at h7
                obtain ⟨g7, c7, rfl⟩ := own_pos h7 (by omega)
                have Hown7 := Lib.hid (own_lower' h7 hwd2)
                have Hb7 := Lib.hid (Hb06.out.grown hg7 hsz6 (fun b hb => by have := (Hown6.out.lt b hb).1; omega))
                clear h7 hg7 hat7 e7
                go_wp2_with fail
                go_roundw
                case rel => exact ⟨j + 1, g7, c7, by omega, by go_num, rfl, Hown7.out, Hb7.out⟩
                case measure => simp [intOf]; omega
        · obtain rfl : j = k := by omega
          have Hins := Lib.hid (ins_at (x := x) (l := S) (k := j) (by rw [HSl.out]; exact Nat.le_refl _) (fun q h => hall.out q h (by rw [HSl.out]; exact h)) (fun h => absurd h (by rw [HSl.out]; exact Nat.lt_irrefl _)))
          clear hall hwi
          go_wp2_with fail
          go_quiet (fail)
          obtain ⟨wd, hwd⟩ : ∃ wd, wd = wi.drewN nq := ⟨_, rfl⟩
          have hbd : Below wo.heap.size wo wd := by
            obtain ⟨n, hn⟩ := drew_of Hwi.out nq
            rw [hwd, hn]
            exact below_drewN (Below.refl _ _) n
          have hownd := own_below' Hown.out hbd
          have hrd1 := own_rdk hownd 0 0 j (by omega) (by omega)
          rw [Nat.zero_mul, List.drop_zero, lvals_take] at hrd1
          have e0 : wd.cell? ⟨g1, o1 + j * 2, none⟩ = some (.string x.key) := by rw [hwd]; exact p0
          have e1 : wd.cell? ⟨g1, o1 + j * 2 + 1, none⟩ = some (.string x.value) := by rw [hwd]; exact p1
          have Hrd1 := Lib.hid hrd1
          have Hownd := Lib.hid hownd
          have Hbd := Lib.hid hbd
          rw [← hwd]
          clear hwd hbd hownd hrd1 p0 p1
          go_wp2_with fail
          have hk64 : j ≤ 64 := by omega
          have hkc : j ≤ cg := by omega
          have hkj0 : j ≤ j := by omega
          have hg1d : g1 < wd.heap.size := Nat.lt_of_lt_of_le hg1 Hbd.out.size
          obtain ⟨xk, hxk⟩ : ∃ y, y = x.key := ⟨_, rfl⟩
          obtain ⟨xv, hxv⟩ : ∃ y, y = x.value := ⟨_, rfl⟩
          rw [← hxk] at e0
          rw [← hxv] at e1
          have Hx : Hid ((⟨xk, xv⟩ : Label) = x) := by rw [hxk, hxv]; rfl
          clear hxk hxv
          go_region_law (first
            | (refine step_first (wd := wd) rfl rfl _ rfl ?_ ?_ (some ⟨g, 0, none⟩) j cg (S.take j) rfl Hrd1.out hk64 ?_
               · first | exact bel1 _ _ | exact bel2 _ _ _
               · first | exact lit1 _ | exact lit2 _ _ | exact lit3 _ _
               intro v5 w5 hown5 hb5 hs5 hkeep5
               have e05 := (World.cell?_of_block (hb5.block g1 hg1d)).trans e0
               have e15 := (World.cell?_of_block (hb5.block g1 hg1d)).trans e1
               first | have hr5 := rdk2 hkeep5 | have hr5 := rdk3 hkeep5 | skip)
            | (refine step_second (wd := wd) rfl rfl _ j (S.take j) ⟨xk, xv⟩ rfl ?_ ?_ (some ⟨_, 0, none⟩) rfl ?_ hk64 ?_
               · first | exact hb5 | exact hb5.alloc hb5.size _
               · first | exact hown5 | exact own_below' hown5 ((Below.refl _ _).alloc (Nat.le_refl _) _)
               · first | exact hr5 | exact rdk_lit w5 _ _
               intro v6 w6 hown6 hb6))
          all_goals
            obtain ⟨g6, c6, rfl⟩ := own_pos hown6 (by omega)
            have hrd2 := (own_rdk Hownd.out j (j * 2) (j - j) rfl (by omega)).below hb6
            rw [lvals_drop, List.take_of_length_le (by rw [lvals_length, List.length_drop, HSl.out]; exact Nat.le_refl _)] at hrd2
            have Hrd2 := Lib.hid hrd2
            have Hown6 := Lib.hid hown6
            have Hb6 := Lib.hid hb6
            have Hb06 := Lib.hid (below_link Hbel.out (below_link Hbd.out hb6 Hbd.out.size) Hbel.out.size)
            have hwd2 : w2.heap.size ≤ wd.heap.size := Nat.le_trans Hbel.out.size Hbd.out.size
            have hsz6 : w2.heap.size ≤ w6.heap.size := Hb06.out.size
            have hdr : S.length = j := HSl.out
            clear hrd2 hown6 hb6 hown5 hb5 hs5 hkeep5 e05 e15 e0 e1
            go_wp2_with (first | (refine wpList_append_rdk rfl (.tmp 53) (.tmp 56) 24 rfl wd.heap.size 35 i0 _ 2 32 Tryd.underlying24 hi hz0 hz1 hz2 rfl (by decide) _ (j + 1) _ rfl Hown6.out _ (0) _ (([] : List Value)) rfl (RdK.nil _ _ _) (fun u hu => by cases hu) (by unfold maxLen; omega) (by omega) Hb6.out.size ?_) | fail)
            all_goals
              intro v7 w7 h7 hg7 hat7
              have en : j + 1 + (j - j) = j + 1 := by omega
              have e7 : lvals (S.take j ++ [⟨xk, xv⟩]) = lvals (sorted (l.take (j + 1))) := by
                rw [HSn.out, Hins.out, Hx.out]
                rw [List.take_of_length_le (by omega), List.drop_of_length_le (by omega)]
              rw [e7] at h7
              try rw [en] at h7
              obtain ⟨g7, c7, rfl⟩ := own_pos h7 (by omega)
              have Hown7 := Lib.hid (own_lower' h7 hwd2)
              have Hb7 := Lib.hid (Hb06.out.grown hg7 hsz6 (fun b hb => by have := (Hown6.out.lt b hb).1; omega))
              clear h7 hg7 hat7 e7
              go_wp2_with fail
              go_roundw
              case rel => exact ⟨j + 1, g7, c7, by omega, by go_num, rfl, Hown7.out, Hb7.out⟩
              case measure => simp [intOf]; omega
    · obtain rfl : j = l.length := by omega
      clear hS hSl
      rw [List.take_length] at hSS
      subst hSS
      have hlen := sorted_length l
      have hbw := below_link Hb2.out hbel Hb2.out.size
      obtain ⟨F, ho, hnd, hrg⟩ := own_lvals (by rw [hlen]; exact own_lower' hown hge) (wf_sorted Hwf.out)
      obtain ⟨F2, ho2, hnd2, hrg2⟩ := own_lvals (own_below' Hown2.out hbel) Hwf.out
      have HC := Lib.hid (spec_labels (sorted l) _ _ wo ho.lies (small_sorted Hz.out))
      have HR1 := Lib.hid (fun n => show ListOut w (wo.drewN n) (.returned (.tuple #[.slice (some ⟨g, 0, none⟩) l.length cg, .bool true])) 2 Label.row (sorted l, true) from ⟨_, 1, F, rfl, ho.below (below_drewN (Below.refl _ _) n), hnd, below_drewN hbw n⟩)
      have HR2 := Lib.hid (fun n => show ListOut w (wo.drewN n) (.returned (.tuple #[.slice A2 l.length c2, .bool false])) 2 Label.row (l, false) from ⟨_, 1, F2, rfl, ho2.below (below_drewN (Below.refl _ _) n), hnd2, below_drewN hbw n⟩)
      clear hown hbel hlen hbw ho ho2 hnd hnd2 hrg hrg2
      by_cases hP : LabelsP (sorted l)
      · rw [yes_t hP] at HC
        have HS := Lib.hid (sort_yes (l := l) (by omega) hP)
        clear hP
        go_wp2_with fail
        refine HC.out.mono ?_
        rintro e w4 ⟨rfl, n1, rfl⟩
        go_wp2_with fail
        go_ret2
        rw [HS.out]
        exact HR1.out _
      · rw [yes_f hP] at HC
        have HS := Lib.hid (sort_no (l := l) (fun h => hP h.2))
        clear hP
        go_wp2_with fail
        refine HC.out.mono ?_
        rintro e w4 ⟨rfl, n1, rfl⟩
        go_wp2_with fail
        go_ret2
        rw [HS.out]
        exact HR2.out _
end Go.Proofs.YtdgedclpaplgoaaDoor.lab
