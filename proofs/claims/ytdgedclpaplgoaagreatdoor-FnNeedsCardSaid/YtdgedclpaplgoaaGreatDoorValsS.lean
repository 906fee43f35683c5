/- spec.l15Values. -/
import Derived.Test.YtdgedclpaplgoaaGreatDoorGA7
import Derived.Test.YtdgedclpaplgoaaGreatDoorGA0
import Derived.Test.YtdgedclpaplgoaaGreatDoorGA5
import Derived.Test.YtdgedclpaplgoaaGreatDoorRows
import Derived.ProofKit
import Derived.OpenShut
import Derived.Deep.WholeRow
import Derived.Deep.RegionLaw
namespace Go.Proofs.YtdgedclpaplgoaaGreatDoor.need
open Go.ChangeShapes Go.WideShapes Go.ChangeAt Go.RowKit ty lab dedup
set_option linter.unusedVariables false

theorem TryzinfoStrV : (Tryz.prog.info? 9).map (fun i => (i.zero, i.size, i.bytes)) = some (some (.string ⟨#[]⟩), 1, 16) := by kernel_rfl
theorem scells_ones (l : List ByteArray) : ∀ u ∈ scells l, u.oneCell' = true := by
  intro u hu
  simp [scells] at hu
  obtain ⟨x, _, rfl⟩ := hu
  rfl
theorem scells_take1 (l : List ByteArray) (k : Nat) : (scells l).take (k * 1) = scells (l.take k) := by simp [scells, List.map_take]
theorem scells_drop1 (l : List ByteArray) (k : Nat) : (scells l).drop (k * 1) = scells (l.drop k) := by simp [scells, List.map_drop]
theorem rdk_of_rd {w : World} {A : Option Addr} {n : Nat} {xs : List Value} (h : Rd w A n xs) : RdK w A n 1 xs := by
  refine ⟨by rw [h.1, Nat.mul_one], fun hm => ?_⟩
  obtain ⟨g, o, hA, hg, hc⟩ := h.2 hm
  exact ⟨g, o, hA, hg, fun j u hu => hc j (by have := (List.getElem?_eq_some_iff.1 hu).1; rw [h.1] at this; exact this) u hu⟩
/-- The first append of the region: onto a new slice that is empty. -/
theorem stepV_first {ops : Array Oper} {o : Oper} {a : Act} {X wd : World} {K : Act → World → Prop} {Q : Exit → Act → World → Prop} {E : Prop}
    (hg : o.guard = none) (hop : o.op = Op.call { callee := Callee.builtin Builtin.append, args := #[.tmp 46, .tmp 49], argTypes := #[29, 29] })
    (b : Nat) (hs : a.eval (.tmp 46) = .slice (some ⟨b, 0, none⟩) 0 0) (hX : Below wd.heap.size wd X) (hown : X.ownsRow wd.heap.size 9 1 (.slice (some ⟨b, 0, none⟩) 0 0) 0 [])
    (A : Option Addr) (k c : Nat) (news : List ByteArray) (hx : a.eval (.tmp 49) = .slice A k c) (hr : RdK wd A k 1 (scells news)) (hk : k ≤ 64)
    (hK : ∀ v' w', w'.ownsRow wd.heap.size 9 1 v' k (scells news) → Below wd.heap.size wd w' → X.heap.size ≤ w'.heap.size → (∀ q, q < X.heap.size → q ≠ b → w'.heap[q]? = X.heap[q]?) → K (a.put o.dst v') w') :
    if Region.wanted o (yielded ops a.tmps) = true then Oper.wp Tryz.prog o a X K Q else E := by
  obtain ⟨i0, hi, hz0, hz1, hz2⟩ := info_parts TryzinfoStrV
  refine step_append_rdk hg (.tmp 46) (.tmp 49) 29 hop wd.heap.size 9 i0 _ 1 16 Tryz.underlying29 hi hz0 hz1 hz2 rfl (by decide) _ 0 [] hs hown A k c (scells news) hx (hr.below hX) (scells_ones _) (by unfold maxLen; omega) (by omega) hX.size ?_
  intro v' w' h1 h2 h3
  rw [Nat.zero_add, List.nil_append] at h1
  refine hK v' w' h1 (hX.grown h2 hX.size (fun q hq => (hown.lt q hq).1)) h2.size (fun q hq hb => h2.block q hq (fun e => hb (by simp [Value.ownBlock] at e; omega)))
/-- The second one: of one string. -/
theorem stepV_second {ops : Array Oper} {o : Oper} {a : Act} {Y wd : World} {K : Act → World → Prop} {Q : Exit → Act → World → Prop} {E : Prop}
    (hg : o.guard = none) (hop : o.op = Op.call { callee := Callee.builtin Builtin.append, args := #[.tmp 50, .tmp 55], argTypes := #[29, 29] })
    (v : Value) (k : Nat) (news : List ByteArray) (x : ByteArray) (hs : a.eval (.tmp 50) = v) (hY : Below wd.heap.size wd Y) (hown : Y.ownsRow wd.heap.size 9 1 v k (scells news))
    (A : Option Addr) (hx : a.eval (.tmp 55) = .slice A 1 1) (hr : RdK Y A 1 1 [.string x]) (hk : k ≤ 64)
    (hK : ∀ v' w', w'.ownsRow wd.heap.size 9 1 v' (k + 1) (scells (news ++ [x])) → Below wd.heap.size wd w' → K (a.put o.dst v') w') :
    if Region.wanted o (yielded ops a.tmps) = true then Oper.wp Tryz.prog o a Y K Q else E := by
  obtain ⟨i0, hi, hz0, hz1, hz2⟩ := info_parts TryzinfoStrV
  refine step_append_rdk hg (.tmp 50) (.tmp 55) 29 hop wd.heap.size 9 i0 _ 1 16 Tryz.underlying29 hi hz0 hz1 hz2 rfl (by decide) v k _ hs hown A 1 1 [.string x] hx hr (by intro u hu; simp at hu; rw [hu]; rfl) (by unfold maxLen; omega) (by omega) hY.size ?_
  intro v' w' h1 h2 h3
  rw [show [Value.string x] = scells [x] from rfl, ← scells_append] at h1
  exact hK v' w' h1 (hY.grown h2 hY.size (fun q hq => (hown.lt q hq).1))
theorem ownV_pos {w : World} {B : Nat} {e : TypeId} {size n : Nat} {v : Value} {xs : List Value} (h : w.ownsRow B e size v n xs) (hn : 0 < n) : ∃ g c, v = .slice (some ⟨g, 0, none⟩) n c := by
  rcases h.2 with ⟨_, h⟩ | ⟨g, cap, cur, rfl, _⟩
  · omega
  · exact ⟨g, cap, rfl⟩
theorem belV1 (w : World) (o : Obj) : Below w.heap.size w ((w.alloc o).drew) := ((Below.refl _ _).alloc (Nat.le_refl _) _).drew
theorem belV2 (w : World) (o p : Obj) : Below w.heap.size w (((w.alloc o).alloc p).drew) := (((Below.refl _ _).alloc (Nat.le_refl _) _).alloc (by simp) _).drew
theorem litV1 (w : World) : ((w.alloc (.cells #[] 9)).drew).ownsRow w.heap.size 9 1 (.slice (some ⟨w.heap.size, 0, none⟩) 0 0) 0 [] :=
  World.ownsRow_lit w #[] 0 (Nat.le_refl _) (by simp [maxLen]) rfl
theorem litV2 (w : World) (p : Obj) : (((w.alloc (.cells #[] 9)).alloc p).drew).ownsRow w.heap.size 9 1 (.slice (some ⟨w.heap.size, 0, none⟩) 0 0) 0 [] :=
  own_below' (World.ownsRow_lit w #[] 0 (Nat.le_refl _) (by simp [maxLen]) rfl) ((Below.refl _ _).alloc (Nat.le_refl _) p).drew
theorem litV3 (w : World) (p : Obj) : (((w.alloc p).alloc (.cells #[] 9)).drew).ownsRow w.heap.size 9 1 (.slice (some ⟨w.heap.size + 1, 0, none⟩) 0 0) 0 [] := by
  have e : w.heap.size + 1 = (w.alloc p).heap.size := by simp
  rw [e]
  exact own_lower' (World.ownsRow_lit (w.alloc p) #[] 0 (Nat.le_refl _) (by simp [maxLen]) rfl) (by simp)
theorem rdkV_row {w : World} {b : Nat} {x : ByteArray} (h : w.heap[b]? = some (.cells #[.string x] 9 (0, 0))) : RdK w (some ⟨b, 0, none⟩) 1 1 [.string x] := by
  refine ⟨rfl, fun _ => ⟨b, 0, rfl, heap_lt h, fun j u hu => ?_⟩⟩
  rw [Nat.zero_add, cell_of_row _ _ _ _ _ _ h]
  simpa using hu
theorem rdkV2 {w w' : World} {o : Obj} {x : ByteArray} (h : ∀ q, q < (((w.alloc o).alloc (.cells #[.string x] 9)).drew).heap.size → q ≠ w.heap.size → w'.heap[q]? = (((w.alloc o).alloc (.cells #[.string x] 9)).drew).heap[q]?) : RdK w' (some ⟨w.heap.size + 1, 0, none⟩) 1 1 [.string x] := by
  refine rdkV_row ((h _ (by show _ < ((w.alloc o).alloc _).heap.size; simp) (by omega)).trans ?_)
  have := heap_alloc_new (w.alloc o) (.cells #[.string x] 9)
  have e : (w.alloc o).heap.size = w.heap.size + 1 := by simp
  rw [e] at this
  exact this
theorem rdkV3 {w w' : World} {o : Obj} {x : ByteArray} (h : ∀ q, q < (((w.alloc (.cells #[.string x] 9)).alloc o).drew).heap.size → q ≠ w.heap.size + 1 → w'.heap[q]? = (((w.alloc (.cells #[.string x] 9)).alloc o).drew).heap[q]?) : RdK w' (some ⟨w.heap.size, 0, none⟩) 1 1 [.string x] := by
  refine rdkV_row ((h _ (by show _ < ((w.alloc _).alloc o).heap.size; simp <;> omega) (by omega)).trans ?_)
  have e : w.heap.size < (w.alloc (.cells #[.string x] 9)).heap.size := by simp
  exact (Below.heap_alloc (w.alloc (.cells #[.string x] 9)) o w.heap.size e).trans (heap_alloc_new w _)
theorem rdkV_lit (w : World) (x : ByteArray) : RdK (w.alloc (.cells #[.string x] 9)) (some ⟨w.heap.size, 0, none⟩) 1 1 [.string x] := rdkV_row (heap_alloc_new w _)

set_option maxRecDepth 1000000 in
set_option maxHeartbeats 8000000 in
theorem spec_vals (l : List ByteArray) (f : Nat) (v : Value) (w : World) (h : Lies w f v (.sl 1 l.length (l.flatMap Str.row))) (hl40 : l.length ≤ 40) :
    Calls Tryz.prog 41 #[v] w fun e w' => ∃ v', e = .returned v' ∧ OwnRow w' w.heap.size 1 9 1 v' (dsort lessB l).length ((dsort lessB l).flatMap Str.row) ∧ Below w.heap.size w w' := by
  obtain ⟨A, c, rfl, hc1, hc2, hr, hks⟩ := Str.opened h
  unfold maxLen at hc2
  obtain ⟨i0, hi, hz0, hz1, hz2⟩ := info_parts TryzinfoStrV
  obtain ⟨w1, hw1⟩ : ∃ w1, w1 = w.alloc (.cells #[] 9) := ⟨_, rfl⟩
  have hb1 : Below w.heap.size w w1 := by rw [hw1]; exact (Below.refl _ _).alloc (Nat.le_refl _) _
  have hown1 : w1.ownsRow w.heap.size 9 1 (.slice (some ⟨w.heap.size, 0, none⟩) 0 0) 0 [] := by rw [hw1]; exact World.ownsRow_lit w #[] 0 (Nat.le_refl _) (by simp [maxLen]) rfl
  have Hw1 := Lib.hid hw1
  have Hown1 := Lib.hid hown1
  have Hb1 := Lib.hid hb1
  have Hr := Lib.hid hr
  have Hks := Lib.hid hks
  clear h hr hks hw1 hown1 hb1
  go_enter Tryz.func41, Tryz.ntmps41
  go_wp2_with fail
  rw [← Hw1.out]
  go_loopw [3, 4] (fun vo i wr => ∃ (j m g cg : Nat), j ≤ l.length ∧ i = .int .i64 j ∧ vo = .slice (some ⟨g, 0, none⟩) m cg ∧ wr.ownsRow w.heap.size 9 1 (.slice (some ⟨g, 0, none⟩) m cg) m (scells (dsort lessB (l.take j))) ∧ Below w.heap.size w wr) (fun _ i _ => l.length - (intOf i).toNat)
  case atStart => exact ⟨0, 0, w.heap.size, 0, Nat.zero_le _, rfl, rfl, by simpa [dsort, scells] using Hown1.out, Hb1.out⟩
  case round =>
    clear Hown1 Hw1 Hb1
    obtain ⟨wo, rfl⟩ : ∃ wo, wo = wr := ⟨_, rfl⟩
    obtain ⟨j, m, g, cg, hj, rfl, rfl, hown, hbel⟩ := hrel
    obtain ⟨S, hS⟩ : ∃ S, S = dsort lessB (l.take j) := ⟨_, rfl⟩
    have hSS := hS
    rw [← hS] at hown
    have hSl : S.length = m := by have := hown.1; rw [scells_length] at this; omega
    have hmj : m ≤ j := by have := dsort_length lessB (l.take j); rw [← hS, List.length_take] at this; omega
    by_cases hlt : j < l.length
    · obtain ⟨g1, o1, rfl, hg1, hc0⟩ := (Hr.out.below hbel).2 (by omega)
      have q0 : wo.cell? ⟨g1, o1 + j, none⟩ = some (.string l[j]) := hc0 j hlt _ (scells_get l j hlt)
      have hSn : dsort lessB (l.take (j + 1)) = insD lessB l[j] S := by rw [List.take_succ_eq_append_getElem hlt, dsort_snoc, hS]
      have HSn := Lib.hid hSn
      have HSl := Lib.hid hSl
      obtain ⟨hcg1, hcg2⟩ : m ≤ cg ∧ cg ≤ 9223372036854775807 := by
        obtain ⟨c', e, h1, h2, _⟩ := own_some hown rfl
        injection e with _ _ e
        subst e
        exact ⟨h1, h2⟩
      have Hown := Lib.hid hown
      have Hbel := Lib.hid hbel
      have hrows : ∀ q (h : q < S.length), wo.cell? ⟨g, q, none⟩ = some (.string S[q]) := fun q h => by
        have := hown.cells (g := g) rfl q (.string S[q]) (scells_get S q h)
        rwa [Addr.add_lit, Nat.zero_add] at this
      have Hrows := Lib.hid hrows
      clear hrows hown hbel hc0 hS hSn hSl hSS
      obtain ⟨x, hx⟩ : ∃ x, x = l[j] := ⟨_, rfl⟩
      rw [← hx] at q0 HSn
      clear hx
      go_wp2_with fail
      go_loopw [5] (fun kv wi => ∃ k : Nat, k ≤ m ∧ kv = .int .i64 k ∧ Hid (∀ q (h : q < k) (h2 : q < S.length), lessB S[q] x = true) ∧ ∃ n, wi = wo.drewN n) (fun kv _ => m - (intOf kv).toNat)
      case atStart => exact ⟨0, Nat.zero_le _, rfl, fun q h => by omega, 0, rfl⟩
      case round =>
        obtain ⟨wi, rfl⟩ : ∃ wi, wi = wr := ⟨_, rfl⟩
        obtain ⟨k, hkj, rfl, hall, n0, hwi⟩ := hrel
        have Hwi : Hid (∃ n, wi = wo.drewN n) := ⟨n0, hwi⟩
        have p0 : wi.cell? ⟨g1, o1 + j, none⟩ = some (.string x) := by rw [hwi]; exact q0
        by_cases hkl : k < m
        · have hkS : k < S.length := by rw [HSl.out]; exact hkl
          have r0 : wi.cell? ⟨g, k, none⟩ = some (.string S[k]) := by rw [hwi]; exact Hrows.out k hkS
          clear hwi
          cases hb : lessB S[k] x with
          | true =>
            have Hnx : Hid (∀ q (h : q < k + 1) (h2 : q < S.length), lessB S[q] x = true) := fun q h h2 => by
              by_cases e : q = k
              · subst e; exact hb
              · exact hall.out q (by omega) h2
            unfold lessB at hb
            clear hall
            generalize S[k] = z at r0 hb
            go_wp2_with fail
            go_quiet (fail)
            go_wp2_with fail
            go_roundw
            case rel => exact ⟨k + 1, by omega, by go_num, Hnx.out, drew_of Hwi.out _⟩
            case measure => simp [intOf]; omega
          | false =>
            cases hb2 : lessB x S[k] with
            | false =>
              have Hins := Lib.hid (insD_stay hkS (fun q h => hall.out q h (by omega)) hb hb2)
              have hs := same_yes (key_same hb hb2)
              clear hall hb2
              unfold lessB at hb
              generalize S[k] = z at r0 hb hs
              go_wp2_with fail
              go_quiet (fail)
              obtain ⟨wd0, hwd0⟩ : ∃ wd0, wd0 = wi.drewN nq := ⟨_, rfl⟩
              have Hwd0 : Hid (∃ n, wd0 = wo.drewN n) := by rw [hwd0]; exact drew_of Hwi.out nq
              have p1 : wd0.cell? ⟨g1, o1 + j, none⟩ = some (.string x) := by rw [hwd0]; exact p0
              have r1 : wd0.cell? ⟨g, k, none⟩ = some (.string z) := by rw [hwd0]; exact r0
              rw [← hwd0]
              clear hwd0 p0 Hwi r0
              go_wp2_with fail
              go_quiet (fail)
              have hbd : Below wo.heap.size wo (wd0.drewN nq) := by
                obtain ⟨n, hn⟩ := drew_of Hwd0.out nq
                rw [hn]
                exact below_drewN (Below.refl _ _) n
              have Hown7 := Lib.hid (own_below' Hown.out hbd)
              have Hb7 := Lib.hid (below_link Hbel.out hbd Hbel.out.size)
              clear hbd
              have e7 : scells S = scells (dsort lessB (l.take (j + 1))) := by rw [HSn.out, Hins.out]
              rw [e7] at Hown7
              clear e7 p1 r1 hb hs
              go_wp2_with fail
              go_roundw
              case rel => exact ⟨j + 1, m, g, cg, by omega, by go_num, rfl, Hown7.out, Hb7.out⟩
              case measure => simp [intOf]; omega
            | true =>
              have Hins := Lib.hid (insD_put (Nat.le_of_lt hkS) (fun q h => hall.out q h (by omega)) (fun h => ⟨hb, hb2⟩))
              have hs := same_no (show ¬ S[k] = x from fun e => by rw [e, lessB_irr] at hb2; cases hb2)
              clear hall hb2
              unfold lessB at hb
              generalize S[k] = z at r0 hb hs
              go_wp2_with fail
              go_quiet (fail)
              obtain ⟨wd0, hwd0⟩ : ∃ wd0, wd0 = wi.drewN nq := ⟨_, rfl⟩
              have Hwd0 : Hid (∃ n, wd0 = wo.drewN n) := by rw [hwd0]; exact drew_of Hwi.out nq
              have p1 : wd0.cell? ⟨g1, o1 + j, none⟩ = some (.string x) := by rw [hwd0]; exact p0
              have r1 : wd0.cell? ⟨g, k, none⟩ = some (.string z) := by rw [hwd0]; exact r0
              rw [← hwd0]
              clear hwd0 p0 Hwi r0
              go_wp2_with fail
              go_quiet (fail)
              clear hb hs r1
              obtain ⟨wd, hwd⟩ : ∃ wd, wd = wd0.drewN nq := ⟨_, rfl⟩
              have hbd : Below wo.heap.size wo wd := by
                obtain ⟨n, hn⟩ := drew_of Hwd0.out nq
                rw [hwd, hn]
                exact below_drewN (Below.refl _ _) n
              have hownd := own_below' Hown.out hbd
              have hrd1 := own_rdk hownd 0 0 k (by omega) (by omega)
              rw [Nat.zero_mul, List.drop_zero, scells_take1] at hrd1
              have e0 : wd.cell? ⟨g1, o1 + j, none⟩ = some (.string x) := by rw [hwd]; exact p1
              have Hrd1 := Lib.hid hrd1
              have Hownd := Lib.hid hownd
              have Hbd := Lib.hid hbd
              rw [← hwd]
              clear hwd hbd hownd hrd1 p1
              go_wp2_with fail
              have hk64 : k ≤ 64 := by omega
              have hkc : k ≤ cg := by omega
              have hkj0 : k ≤ m := by omega
              have hg1d : g1 < wd.heap.size := by
                have h1 := World.block_lt_of_cell? _ _ e0
                exact h1
              go_region_law (first
                | (refine stepV_first (wd := wd) rfl rfl _ rfl ?_ ?_ (some ⟨g, 0, none⟩) k cg (S.take k) rfl Hrd1.out hk64 ?_
                   · first | exact belV1 _ _ | exact belV2 _ _ _
                   · first | exact litV1 _ | exact litV2 _ _ | exact litV3 _ _
                   intro v5 w5 hown5 hb5 hs5 hkeep5
                   have e05 := (World.cell?_of_block (hb5.block g1 hg1d)).trans e0
                   first | have hr5 := rdkV2 hkeep5 | have hr5 := rdkV3 hkeep5 | skip)
                | (refine stepV_second (wd := wd) rfl rfl _ k (S.take k) x rfl ?_ ?_ (some ⟨_, 0, none⟩) rfl ?_ hk64 ?_
                   · first | exact hb5 | exact hb5.alloc hb5.size _
                   · first | exact hown5 | exact own_below' hown5 ((Below.refl _ _).alloc (Nat.le_refl _) _)
                   · first | exact hr5 | exact rdkV_lit w5 _
                   intro v6 w6 hown6 hb6))
              all_goals
                obtain ⟨g6, c6, rfl⟩ := ownV_pos hown6 (by omega)
                have hrd2 := (own_rdk Hownd.out k k (m - k) (by omega) (by omega)).below hb6
                rw [scells_drop1, List.take_of_length_le (by rw [scells_length, List.length_drop, HSl.out, Nat.mul_one]; exact Nat.le_refl _)] at hrd2
                have Hrd2 := Lib.hid hrd2
                have Hown6 := Lib.hid hown6
                have Hb6 := Lib.hid hb6
                have Hb06 := Lib.hid (below_link Hbel.out (below_link Hbd.out hb6 Hbd.out.size) Hbel.out.size)
                have hwd2 : w.heap.size ≤ wd.heap.size := Nat.le_trans Hbel.out.size Hbd.out.size
                have hsz6 : w.heap.size ≤ w6.heap.size := Hb06.out.size
                have hdr : S.length = m := HSl.out
                clear hrd2 hown6 hb6 hown5 hb5 hs5 hkeep5 e05 e0
                go_wp2_with (first | (refine wpList_append_rdk rfl (.tmp 57) (.tmp 60) 29 rfl wd.heap.size 9 i0 _ 1 16 Tryz.underlying29 hi hz0 hz1 hz2 rfl (by decide) _ (k + 1) _ rfl Hown6.out _ (m - k) _ (scells (S.drop k)) rfl (Hrd2.out) (scells_ones _) (by unfold maxLen; omega) (by omega) Hb6.out.size ?_) | fail)
                all_goals
                  intro v7 w7 h7 hg7 hat7
                  have e7 : scells (S.take k ++ [x]) ++ scells (S.drop k) = scells (dsort lessB (l.take (j + 1))) := by
                    rw [HSn.out, Hins.out]
                    rw [← scells_append, List.append_assoc]; rfl
                  rw [e7] at h7
                  obtain ⟨g7, c7, rfl⟩ := ownV_pos h7 (by omega)
                  have Hown7 := Lib.hid (own_lower' h7 hwd2)
                  have Hb7 := Lib.hid (Hb06.out.grown hg7 hsz6 (fun b hb => by have := (Hown6.out.lt b hb).1; omega))
                  clear h7 hg7 hat7 e7
                  go_wp2_with fail
                  go_roundw
                  case rel => exact ⟨j + 1, _, g7, c7, by omega, by go_num, rfl, Hown7.out, Hb7.out⟩
                  case measure => simp [intOf]; omega
        · obtain rfl : m = k := by omega
          have Hins := Lib.hid (insD_put (lt := lessB) (x := x) (S := S) (k := m) (by rw [HSl.out]; exact Nat.le_refl _) (fun q h => hall.out q h (by rw [HSl.out]; exact h)) (fun h => absurd h (by rw [HSl.out]; exact Nat.lt_irrefl _)))
          clear hall hwi
          go_wp2_with fail
          go_quiet (fail)
          obtain ⟨wd0, hwd0⟩ : ∃ wd0, wd0 = wi.drewN nq := ⟨_, rfl⟩
          have Hwd0 : Hid (∃ n, wd0 = wo.drewN n) := by rw [hwd0]; exact drew_of Hwi.out nq
          have p1 : wd0.cell? ⟨g1, o1 + j, none⟩ = some (.string x) := by rw [hwd0]; exact p0
          rw [← hwd0]
          clear hwd0 p0 Hwi
          go_wp2_with fail
          go_quiet (fail)
          obtain ⟨wd, hwd⟩ : ∃ wd, wd = wd0.drewN nq := ⟨_, rfl⟩
          have hbd : Below wo.heap.size wo wd := by
            obtain ⟨n, hn⟩ := drew_of Hwd0.out nq
            rw [hwd, hn]
            exact below_drewN (Below.refl _ _) n
          have hownd := own_below' Hown.out hbd
          have hrd1 := own_rdk hownd 0 0 m (by omega) (by omega)
          rw [Nat.zero_mul, List.drop_zero, scells_take1] at hrd1
          have e0 : wd.cell? ⟨g1, o1 + j, none⟩ = some (.string x) := by rw [hwd]; exact p1
          have Hrd1 := Lib.hid hrd1
          have Hownd := Lib.hid hownd
          have Hbd := Lib.hid hbd
          rw [← hwd]
          clear hwd hbd hownd hrd1 p1
          go_wp2_with fail
          have hk64 : m ≤ 64 := by omega
          have hkc : m ≤ cg := by omega
          have hkj0 : m ≤ m := by omega
          have hg1d : g1 < wd.heap.size := by
            have h1 := World.block_lt_of_cell? _ _ e0
            exact h1
          go_region_law (first
            | (refine stepV_first (wd := wd) rfl rfl _ rfl ?_ ?_ (some ⟨g, 0, none⟩) m cg (S.take m) rfl Hrd1.out hk64 ?_
               · first | exact belV1 _ _ | exact belV2 _ _ _
               · first | exact litV1 _ | exact litV2 _ _ | exact litV3 _ _
               intro v5 w5 hown5 hb5 hs5 hkeep5
               have e05 := (World.cell?_of_block (hb5.block g1 hg1d)).trans e0
               first | have hr5 := rdkV2 hkeep5 | have hr5 := rdkV3 hkeep5 | skip)
            | (refine stepV_second (wd := wd) rfl rfl _ m (S.take m) x rfl ?_ ?_ (some ⟨_, 0, none⟩) rfl ?_ hk64 ?_
               · first | exact hb5 | exact hb5.alloc hb5.size _
               · first | exact hown5 | exact own_below' hown5 ((Below.refl _ _).alloc (Nat.le_refl _) _)
               · first | exact hr5 | exact rdkV_lit w5 _
               intro v6 w6 hown6 hb6))
          all_goals
            obtain ⟨g6, c6, rfl⟩ := ownV_pos hown6 (by omega)
            have hrd2 := (own_rdk Hownd.out m m (m - m) (by omega) (by omega)).below hb6
            rw [scells_drop1, List.take_of_length_le (by rw [scells_length, List.length_drop, HSl.out, Nat.mul_one]; exact Nat.le_refl _)] at hrd2
            have Hrd2 := Lib.hid hrd2
            have Hown6 := Lib.hid hown6
            have Hb6 := Lib.hid hb6
            have Hb06 := Lib.hid (below_link Hbel.out (below_link Hbd.out hb6 Hbd.out.size) Hbel.out.size)
            have hwd2 : w.heap.size ≤ wd.heap.size := Nat.le_trans Hbel.out.size Hbd.out.size
            have hsz6 : w.heap.size ≤ w6.heap.size := Hb06.out.size
            have hdr : S.length = m := HSl.out
            clear hrd2 hown6 hb6 hown5 hb5 hs5 hkeep5 e05 e0
            go_wp2_with (first | (refine wpList_append_rdk rfl (.tmp 57) (.tmp 60) 29 rfl wd.heap.size 9 i0 _ 1 16 Tryz.underlying29 hi hz0 hz1 hz2 rfl (by decide) _ (m + 1) _ rfl Hown6.out _ (0) _ (([] : List Value)) rfl (RdK.nil _ _ _) (fun u hu => by cases hu) (by unfold maxLen; omega) (by omega) Hb6.out.size ?_) | fail)
            all_goals
              intro v7 w7 h7 hg7 hat7
              have e7 : scells (S.take m ++ [x]) = scells (dsort lessB (l.take (j + 1))) := by
                rw [HSn.out, Hins.out]
                rw [List.take_of_length_le (by omega), List.drop_of_length_le (by omega)]
              rw [e7] at h7
              obtain ⟨g7, c7, rfl⟩ := ownV_pos h7 (by omega)
              have Hown7 := Lib.hid (own_lower' h7 hwd2)
              have Hb7 := Lib.hid (Hb06.out.grown hg7 hsz6 (fun b hb => by have := (Hown6.out.lt b hb).1; omega))
              clear h7 hg7 hat7 e7
              go_wp2_with fail
              go_roundw
              case rel => exact ⟨j + 1, _, g7, c7, by omega, by go_num, rfl, Hown7.out, Hb7.out⟩
              case measure => simp [intOf]; omega
    · obtain rfl : j = l.length := by omega
      rw [List.take_length] at hSS
      subst hSS
      subst hSl
      have Hbel := Lib.hid hbel
      have HR := Lib.hid (ownRow_strs (f := 0) hown (fun y hy => Hks.out y (dsort_sub lessB l y hy)))
      clear hown hbel
      go_wp2_with fail
      go_ret
      exact ⟨_, rfl, by rw [Str.flat]; exact HR.out, Hbel.out⟩
end Go.Proofs.YtdgedclpaplgoaaGreatDoor.need
