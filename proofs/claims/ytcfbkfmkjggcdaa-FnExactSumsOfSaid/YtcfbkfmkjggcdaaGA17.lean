/- Merged: SumsM SumsT IntInfo FlSrt SumsS SzPodS ToPodS EqPodS. -/
import Derived.Test.YtcfbkfmkjggcdaaGA4
import Derived.Test.YtcfbkfmkjggcdaaGA12
import Derived.Test.YtcfbkfmkjggcdaaGA1
import Derived.Test.YtcfbkfmkjggcdaaGA2
import Derived.Test.YtcfbkfmkjggcdaaRuneM
import Derived.Test.YtcfbkfmkjggcdaaRows
import Derived.ProofKit
import Derived.OpenShut
import Derived.Deep.RegionLaw
import Derived.Test.YtcfbkfmkjggcdaaGA19
import Derived.Test.YtcfbkfmkjggcdaaGA3
import Derived.OwnWalk
import Derived.Test.YtcfbkfmkjggcdaaGA5
import Derived.Deep.WholeRow
import Derived.Test.YtcfbkfmkjggcdaaGA6
namespace Go.Proofs.Ytcfbkfmkjggcdaa.pod
open Go Go.RowKit ty arith
set_option linter.unusedVariables false

def cpus (l : List Pod) : List Int := l.map Pod.cpu
def mems (l : List Pod) : List Int := l.map Pod.mem
/-- Both sums, or none. -/
def sums3 : Option Int → Option Int → Value
  | some a, some b => .tuple #[.int .i64 a, .int .i64 b, .bool true]
  | _, _ => .tuple #[.int .i64 0, .int .i64 0, .bool false]
def sumsV (l : List Pod) : Value := sums3 (sumF (cpus l)) (sumF (mems l))
theorem sumsV_is (l : List Pod) : ∃ a b c, sumsV l = .tuple #[.int .i64 a, .int .i64 b, .bool c] := by
  unfold sumsV sums3
  split
  · exact ⟨_, _, _, rfl⟩
  · exact ⟨_, _, _, rfl⟩
theorem map_snoc {β : Type} (f : Pod → β) {l : List Pod} {j : Nat} (h : j < l.length) : (l.map f).take (j + 1) = (l.map f).take j ++ [f l[j]] := by
  rw [List.take_succ_eq_append_getElem (by simpa using h), List.getElem_map]
theorem map_take_len {β : Type} (f : Pod → β) {l : List Pod} {j : Nat} (h : j ≤ l.length) : ((l.map f).take j).length = j := by simp; omega
end Go.Proofs.Ytcfbkfmkjggcdaa.pod
namespace Go.Proofs.Ytcfbkfmkjggcdaa.pod
open Go Go.RowKit ty arith
set_option linter.unusedVariables false

/-- Two rows of numbers of the call's own under way, apart from each other. -/
structure Two (w : World) (it : TypeId) (vc vm : Value) (j : Nat) (xs ys : List Int) (a : World) : Prop where
  c : a.ownsRow w.heap.size it 1 vc j (icells xs)
  m : a.ownsRow w.heap.size it 1 vm j (icells ys)
  apart : ∀ q, vc.ownBlock = some q → vm.ownBlock = some q → False
  bel : Below w.heap.size w a
theorem of_ne {ob ob' : Option Nat} (h : ∀ q, ob = some q → ob' = some q → False) : ob = none ∨ ob ≠ ob' := by
  cases ob with
  | none => exact .inl rfl
  | some q => exact .inr fun e => h q rfl e.symm
theorem i64_pod {x : Pod} (h : x.Wf) : (Lit.int .i64 x.cpu).wf = true ∧ (Lit.int .i64 x.mem).wf = true := ⟨h.2.1, h.2.2.1⟩
end Go.Proofs.Ytcfbkfmkjggcdaa.pod
namespace Go.Proofs.Ytcfbkfmkjggcdaa.iinfo
open Go.ChangeShapes Go.WideShapes Go.ChangeAt Go.RowKit
set_option linter.unusedVariables false
theorem Tryinfo : (Try.prog.info? 3).map (fun i => (i.zero, i.size, i.bytes)) = some (some (.int .i64 0), 1, 8) := by kernel_rfl
theorem snoc (l : List Int) (x : Int) : icells l ++ [.int .i64 x] = icells (l ++ [x]) := by rw [icells_append]; rfl
theorem one_cell (x : Int) : ∀ u ∈ ([.int .i64 x] : List Value), u.oneCell' = true := by intro u hu; simp at hu; subst hu; rfl
end Go.Proofs.Ytcfbkfmkjggcdaa.iinfo
namespace Go.Proofs.Ytcfbkfmkjggcdaa.rune
open Go Go.RowKit
/-- The numbers of a text; none if it is no UTF-8. -/
noncomputable def resL (s : ByteArray) : List Int := (runesF s).getD []
/-- Is it UTF-8? -/
noncomputable def okS (s : ByteArray) : Bool := (runesF s).isSome
theorem res_none {s : ByteArray} (h : runesF s = none) : resL s = [] ∧ okS s = false := by unfold resL okS; rw [h]; exact ⟨rfl, rfl⟩
theorem res_some {s : ByteArray} {l : List Int} (h : runesF s = some l) : resL s = l ∧ okS s = true := by unfold resL okS; rw [h]; exact ⟨rfl, rfl⟩
theorem join_none {o : Option (List Int)} {l : List Int} (h : o = none) : o.map (l ++ ·) = none := by rw [h]; rfl
/-- One number more. -/
theorem cut_more {s : ByteArray} {p n k : Nat} {l : List Int} (h : Is s p n) (hk : k = (enc n).length) (hr : (cut s (s.size - p) p).map (l ++ ·) = runesF s) : (cut s (s.size - (p + k)) (p + k)).map ((l ++ [(n : Int)]) ++ ·) = runesF s := by
  have hp := enc_pos n
  have hl := h.2.1
  subst hk
  obtain ⟨b, hb⟩ : ∃ b, s.size - p = b + 1 := ⟨s.size - p - 1, by omega⟩
  rw [← hr, hb, cut_step h, cut_enough (c := b) (by omega) (by omega)]
  cases cut s b (p + (enc n).length) with
  | none => rfl
  | some r => simp
theorem cut_stop {s : ByteArray} {p : Nat} {l : List Int} (h : s.size ≤ p) (hr : (cut s (s.size - p) p).map (l ++ ·) = runesF s) : runesF s = some l := by
  rw [← hr, cut_end h]
  simp
theorem cut_fail {s : ByteArray} {p : Nat} {l : List Int} (hp : p < s.size) (h : (atF s (p : Int)).2 < 0) (hr : (cut s (s.size - p) p).map (l ++ ·) = runesF s) : runesF s = none := by
  rw [← hr, cut_none hp h]
  rfl
end Go.Proofs.Ytcfbkfmkjggcdaa.rune
namespace Go.Proofs.Ytcfbkfmkjggcdaa.flt
open Go Go.RowKit
set_option linter.unusedVariables false

/-- The first append of the region: onto a new slice that is empty. -/
theorem step_first {P : Program} {ops : Array Oper} {o : Oper} {a : Act} {X wd : World} {K : Act → World → Prop} {Q : Exit → Act → World → Prop} {E : Prop}
    (hg : o.guard = none) (s x : Operand) (t : TypeId) (hop : o.op = Op.call { callee := Callee.builtin Builtin.append, args := #[s, x], argTypes := #[t, t] })
    (e : TypeId) (i : TypeInfo) (z : Value) (size bytes : Nat) (ht : P.underlying t = some (.slice e)) (hi : P.info? e = some i) (hz : i.zero = some z)
    (hsize : i.size = size) (hby : i.bytes = bytes) (hzs : z.cells.size = size) (hsz : 0 < size) (hbb : bytes ≤ 1000)
    (b : Nat) (hs : a.eval s = .slice (some ⟨b, 0, none⟩) 0 0) (hX : Below wd.heap.size wd X) (hown : X.ownsRow wd.heap.size e size (.slice (some ⟨b, 0, none⟩) 0 0) 0 [])
    (A : Option Addr) (k c : Nat) (news : List Value) (hx : a.eval x = .slice A k c) (hr : RdK wd A k size news) (h1 : ∀ u ∈ news, u.oneCell' = true) (hk : k ≤ 64)
    (hK : ∀ v' w', w'.ownsRow wd.heap.size e size v' k news → Below wd.heap.size wd w' → X.heap.size ≤ w'.heap.size → (∀ q, q < X.heap.size → q ≠ b → w'.heap[q]? = X.heap[q]?) → K (a.put o.dst v') w') :
    if Region.wanted o (yielded ops a.tmps) = true then Oper.wp P o a X K Q else E := by
  have hbb2 : (0 + k) * bytes ≤ 140737488355328 := Nat.le_trans (Nat.mul_le_mul (show 0 + k ≤ 64 by omega) hbb) (by decide)
  refine step_append_rdk hg s x t hop wd.heap.size e i z size bytes ht hi hz hsize hby hzs hsz _ 0 [] hs hown A k c news hx (hr.below hX) h1 (by unfold maxLen; omega) hbb2 hX.size ?_
  intro v' w' h1 h2 h3
  rw [Nat.zero_add, List.nil_append] at h1
  refine hK v' w' h1 (hX.grown h2 hX.size (fun q hq => (hown.lt q hq).1)) h2.size (fun q hq hb => h2.block q hq (fun e => hb (by simp [Value.ownBlock] at e; omega)))
/-- The second one: of one element. -/
theorem step_second {P : Program} {ops : Array Oper} {o : Oper} {a : Act} {Y wd : World} {K : Act → World → Prop} {Q : Exit → Act → World → Prop} {E : Prop}
    (hg : o.guard = none) (s x : Operand) (t : TypeId) (hop : o.op = Op.call { callee := Callee.builtin Builtin.append, args := #[s, x], argTypes := #[t, t] })
    (e : TypeId) (i : TypeInfo) (z : Value) (size bytes : Nat) (ht : P.underlying t = some (.slice e)) (hi : P.info? e = some i) (hz : i.zero = some z)
    (hsize : i.size = size) (hby : i.bytes = bytes) (hzs : z.cells.size = size) (hsz : 0 < size) (hbb : bytes ≤ 1000)
    (v : Value) (k : Nat) (news us : List Value) (hs : a.eval s = v) (hY : Below wd.heap.size wd Y) (hown : Y.ownsRow wd.heap.size e size v k news)
    (A : Option Addr) (hx : a.eval x = .slice A 1 1) (hr : RdK Y A 1 size us) (h1 : ∀ u ∈ us, u.oneCell' = true) (hk : k ≤ 64)
    (hK : ∀ v' w', w'.ownsRow wd.heap.size e size v' (k + 1) (news ++ us) → Below wd.heap.size wd w' → K (a.put o.dst v') w') :
    if Region.wanted o (yielded ops a.tmps) = true then Oper.wp P o a Y K Q else E := by
  have hbb2 : (k + 1) * bytes ≤ 140737488355328 := Nat.le_trans (Nat.mul_le_mul (show k + 1 ≤ 65 by omega) hbb) (by decide)
  refine step_append_rdk hg s x t hop wd.heap.size e i z size bytes ht hi hz hsize hby hzs hsz v k _ hs hown A 1 1 us hx hr h1 (by unfold maxLen; omega) hbb2 hY.size ?_
  intro v' w' h1 h2 h3
  exact hK v' w' h1 (hY.grown h2 hY.size (fun q hq => (hown.lt q hq).1))
theorem bel1 (w : World) (o : Obj) : Below w.heap.size w ((w.alloc o).drew) := ((Below.refl _ _).alloc (Nat.le_refl _) _).drew
theorem bel2 (w : World) (o p : Obj) : Below w.heap.size w (((w.alloc o).alloc p).drew) := (((Below.refl _ _).alloc (Nat.le_refl _) _).alloc (by simp) _).drew
section
variable (e : TypeId) (k : Nat)
theorem lit1 (w : World) : ((w.alloc (.cells #[] e)).drew).ownsRow w.heap.size e k (.slice (some ⟨w.heap.size, 0, none⟩) 0 0) 0 [] :=
  World.ownsRow_lit w #[] 0 (Nat.le_refl _) (by simp [maxLen]) (by simp)
theorem lit2 (w : World) (p : Obj) : (((w.alloc (.cells #[] e)).alloc p).drew).ownsRow w.heap.size e k (.slice (some ⟨w.heap.size, 0, none⟩) 0 0) 0 [] :=
  own_below' (World.ownsRow_lit w #[] 0 (Nat.le_refl _) (by simp [maxLen]) (by simp)) ((Below.refl _ _).alloc (Nat.le_refl _) p).drew
theorem lit3 (w : World) (p : Obj) : (((w.alloc p).alloc (.cells #[] e)).drew).ownsRow w.heap.size e k (.slice (some ⟨w.heap.size + 1, 0, none⟩) 0 0) 0 [] := by
  have h : w.heap.size + 1 = (w.alloc p).heap.size := by simp
  rw [h]
  exact own_lower' (World.ownsRow_lit (w.alloc p) #[] 0 (Nat.le_refl _) (by simp [maxLen]) (by simp)) (by simp)
end
theorem rdk_row {w : World} {b k : Nat} {e : TypeId} {xs : List Value} (hx : xs.length = k) (h : w.heap[b]? = some (.cells xs.toArray e (0, 0))) : RdK w (some ⟨b, 0, none⟩) 1 k xs := by
  refine ⟨by omega, fun _ => ⟨b, 0, rfl, heap_lt h, fun j u hu => ?_⟩⟩
  rw [Nat.zero_add, cell_of_row _ _ _ _ _ _ h]
  simpa using hu
theorem rdk2 {w w' : World} {o : Obj} {k : Nat} {e : TypeId} {xs : List Value} (hx : xs.length = k) (h : ∀ q, q < (((w.alloc o).alloc (.cells xs.toArray e)).drew).heap.size → q ≠ w.heap.size → w'.heap[q]? = (((w.alloc o).alloc (.cells xs.toArray e)).drew).heap[q]?) : RdK w' (some ⟨w.heap.size + 1, 0, none⟩) 1 k xs := by
  refine rdk_row (e := e) hx ((h _ (by show _ < ((w.alloc o).alloc _).heap.size; simp) (by omega)).trans ?_)
  have := heap_alloc_new (w.alloc o) (.cells xs.toArray e)
  have e : (w.alloc o).heap.size = w.heap.size + 1 := by simp
  rw [e] at this
  exact this
theorem rdk3 {w w' : World} {o : Obj} {k : Nat} {e : TypeId} {xs : List Value} (hx : xs.length = k) (h : ∀ q, q < (((w.alloc (.cells xs.toArray e)).alloc o).drew).heap.size → q ≠ w.heap.size + 1 → w'.heap[q]? = (((w.alloc (.cells xs.toArray e)).alloc o).drew).heap[q]?) : RdK w' (some ⟨w.heap.size, 0, none⟩) 1 k xs := by
  refine rdk_row (e := e) hx ((h _ (by show _ < ((w.alloc _).alloc o).heap.size; simp <;> omega) (by omega)).trans ?_)
  have e2 : w.heap.size < (w.alloc (.cells xs.toArray e)).heap.size := by simp
  exact (Below.heap_alloc (w.alloc (.cells xs.toArray e)) o w.heap.size e2).trans (heap_alloc_new w _)
theorem rdk_lit {k : Nat} (w : World) (e : TypeId) (xs : List Value) (hx : xs.length = k) : RdK (w.alloc (.cells xs.toArray e)) (some ⟨w.heap.size, 0, none⟩) 1 k xs := rdk_row hx (heap_alloc_new w _)
end Go.Proofs.Ytcfbkfmkjggcdaa.flt
namespace Go.Proofs.Ytcfbkfmkjggcdaa.pod
open Go.ChangeShapes Go.WideShapes Go.ChangeAt Go.RowKit ty lab arith
set_option linter.unusedVariables false

set_option maxRecDepth 100000 in
set_option maxHeartbeats 16000000 in
theorem spec_sums (l : List Pod) (f : Nat) (v : Value) (w : World) (h : Lies w f v (.sl 7 l.length (l.flatMap Pod.row))) (hn : l.length ≤ 1048576) :
    Calls Try.prog 17 #[v] w fun e w' => e = .returned (sumsV l) ∧ Below w.heap.size w w' := by
  obtain ⟨A, c, rfl, hc1, hc2, f', rfl, hk⟩ := els_of Pod.row_length h
  unfold maxLen at hc2
  have Hwc : Hid (∀ x ∈ cpus l, (Lit.int .i64 x).wf = true) := fun x hx => by
    obtain ⟨y, hy, rfl⟩ := List.mem_map.1 hx
    obtain ⟨j, hj, rfl⟩ := List.getElem_of_mem hy
    obtain ⟨g, o, _, _, us, _, _, hls⟩ := hk.get hj
    obtain ⟨_, _, _, _, _, _, _, hwf, _⟩ := Pod.opened hls
    exact (i64_pod hwf).1
  have Hwm : Hid (∀ x ∈ mems l, (Lit.int .i64 x).wf = true) := fun x hx => by
    obtain ⟨y, hy, rfl⟩ := List.mem_map.1 hx
    obtain ⟨j, hj, rfl⟩ := List.getElem_of_mem hy
    obtain ⟨g, o, _, _, us, _, _, hls⟩ := hk.get hj
    obtain ⟨_, _, _, _, _, _, _, hwf, _⟩ := Pod.opened hls
    exact (i64_pod hwf).2
  obtain ⟨i0, hi, hz0, hz1, hz2⟩ := info_parts iinfo.Tryinfo
  have Hk := Lib.hid hk
  obtain ⟨w2, hw2⟩ : ∃ w2, w2 = (w.alloc (.cells #[] 3)).alloc (.cells #[] 3) := ⟨_, rfl⟩
  have h2 : Two w 3 (.slice (some ⟨w.heap.size, 0, none⟩) 0 0) (.slice (some ⟨w.heap.size + 1, 0, none⟩) 0 0) 0 [] [] w2 := by
    rw [hw2]
    refine ⟨own_below' (World.ownsRow_lit w #[] 0 (Nat.le_refl _) (by simp [maxLen]) rfl) ((Below.refl _ _).alloc (Nat.le_refl _) _), ?_, fun q h1 h2 => ?_, ((Below.refl _ _).alloc (Nat.le_refl _) _).alloc (by simp) _⟩
    · have h1 := World.ownsRow_lit (size := 1) (e := 3) (w.alloc (.cells #[] 3)) #[] 0 (Nat.le_refl _) (by simp [maxLen]) rfl
      rw [show (w.alloc (.cells #[] 3)).heap.size = w.heap.size + 1 by simp] at h1
      exact own_lower' h1 (by omega)
    · simp [Value.ownBlock] at h1 h2
      omega
  have Hw2 := Lib.hid hw2
  have H2 := Lib.hid h2
  clear h hk hw2 h2
  go_enter Try.func17, Try.ntmps17
  go_wp2_with fail
  rw [← Hw2.out]
  go_loopw [5, 6, 7] (fun vc vm i wr => ∃ j : Nat, j ≤ l.length ∧ i = .int .i64 j ∧ Two w 3 vc vm j ((cpus l).take j) ((mems l).take j) wr) (fun _ _ i _ => l.length - (intOf i).toNat)
  case atStart => exact ⟨0, Nat.zero_le _, rfl, H2.out⟩
  case round =>
    clear H2 Hw2
    obtain ⟨wo, rfl⟩ : ∃ wo, wo = wr := ⟨_, rfl⟩
    obtain ⟨j, hj, rfl, hst⟩ := hrel
    obtain ⟨Ac, cc, rfl⟩ := own_is_slice hst.c
    obtain ⟨Am, cm, rfl⟩ := own_is_slice hst.m
    have Hst := Lib.hid hst
    by_cases hlt : j < l.length
    · obtain ⟨g, o, rfl, hg, us, hus, hc, hls⟩ := Hk.out.get hlt
      obtain ⟨_, _, _, _, _, _, rfl, hwf, _⟩ := Pod.opened hls
      have q2 : wo.cell? ⟨g, o + j * 7 + 2, none⟩ = some (.int .i64 l[j].cpu) := (World.cell?_of_block (hst.bel.block g hg)).trans (hc 2 _ rfl)
      have Q3 := Lib.hid (fun w' (hb : Below w.heap.size w w') => show w'.cell? ⟨g, o + j * 7 + 3, none⟩ = some (.int .i64 l[j].mem) from (World.cell?_of_block (hb.block g hg)).trans (hc 3 _ rfl))
      have hj0 : (0 : Int) ≤ (j : Int) := by omega
      have hjn : (j : Int) < (l.length : Int) := by omega
      have Hnc := Lib.hid (map_snoc Pod.cpu hlt)
      have Hnm := Lib.hid (map_snoc Pod.mem hlt)
      have hBo : w.heap.size ≤ wo.heap.size := hst.bel.size
      clear hst hc hls hus hwf
      generalize l[j].cpu = xc at q2 Hnc
      generalize l[j].mem = xm at Q3 Hnm
      go_wp2_with (first | (at_builtin; refine wpList_append_rdk rfl (.tmp 20) (.tmp 26) 70 rfl w.heap.size 3 i0 (.int .i64 0) 1 8 Try.underlying70 hi hz0 hz1 hz2 rfl (by decide) _ j (icells ((cpus l).take j)) rfl (own_below' Hst.out.c ((Below.refl _ _).alloc (Nat.le_refl _) _)) _ 1 1 [.int .i64 xc] rfl (flt.rdk_lit _ _ _ rfl) (iinfo.one_cell xc) (by unfold maxLen; omega) (by omega) (by simp; omega) ?_) | fail)
      intro v5 w5 hown5 hg5 hat5
      have hb5 : Below w.heap.size w w5 := (Hst.out.bel.alloc hBo _).grown hg5 (by simp; omega) (fun q hq => (Hst.out.c.lt q hq).1)
      have hm5 := (own_below' Hst.out.m ((Below.refl _ _).alloc (Nat.le_refl _) (.cells #[.int .i64 xc] 3))).kept hg5 (of_ne fun q h1 h2 => Hst.out.apart q h2 h1)
      have ha5 : ∀ q, v5.ownBlock = some q → (Value.slice Am j cm).ownBlock = some q → False := fun q h1 h2 => by
        rcases hat5 with e | e
        · exact Hst.out.apart q (e ▸ h1) h2
        · have h3 := (Hst.out.m.lt q h2).2
          rw [e] at h1
          injection h1 with h1
          try simp at h1
          omega
      have q3 := Q3.out w5 hb5
      have hs5 : w.heap.size ≤ w5.heap.size := hb5.size
      have Hown5 := Lib.hid hown5
      have Hm5 := Lib.hid hm5
      have Ha5 := Lib.hid ha5
      have Hb5 := Lib.hid hb5
      clear hown5 hg5 hat5 hb5 hm5 ha5 Hst q2
      go_wp2_with (first | (at_builtin; refine wpList_append_rdk rfl (.tmp 28) (.tmp 34) 70 rfl w.heap.size 3 i0 (.int .i64 0) 1 8 Try.underlying70 hi hz0 hz1 hz2 rfl (by decide) _ j (icells ((mems l).take j)) rfl (own_below' Hm5.out ((Below.refl _ _).alloc (Nat.le_refl _) _)) _ 1 1 [.int .i64 xm] rfl (flt.rdk_lit _ _ _ rfl) (iinfo.one_cell xm) (by unfold maxLen; omega) (by omega) (by simp; omega) ?_) | fail)
      intro v6 w6 hown6 hg6 hat6
      have HR : Hid (Two w 3 v5 v6 (j + 1) ((cpus l).take (j + 1)) ((mems l).take (j + 1)) w6) := by
        refine ⟨?_, ?_, fun q h1 h2 => ?_, (Hb5.out.alloc hs5 _).grown hg6 (by simp; omega) (fun q hq => (Hm5.out.lt q hq).1)⟩
        · have h1 := (own_below' Hown5.out ((Below.refl _ _).alloc (Nat.le_refl _) (.cells #[.int .i64 xm] 3))).kept hg6 (of_ne fun q h1 h2 => Ha5.out q h1 h2)
          unfold cpus
          rw [Hnc.out, icells_append]
          exact h1
        · unfold mems
          rw [Hnm.out, icells_append]
          exact hown6
        · rcases hat6 with e | e
          · exact Ha5.out q h1 (e ▸ h2)
          · have h3 := (Hown5.out.lt q h1).2
            rw [e] at h2
            injection h2 with h2
            try simp at h2
            omega
      clear hown6 hg6 hat6
      go_wp2_with fail
      go_roundw
      case rel => exact ⟨j + 1, by omega, by go_num, HR.out⟩
      case measure => simp [intOf]; omega
    · obtain rfl : j = l.length := by omega
      have e1 : (cpus l).take l.length = cpus l := List.take_of_length_le (by simp [cpus])
      have e2 : (mems l).take l.length = mems l := List.take_of_length_le (by simp [mems])
      rw [e1, e2] at hst
      obtain ⟨_, _, ec, k1, k2, hrc⟩ := Rd.of_own hst.c
      injection ec with ec _ ed
      subst ec ed
      obtain ⟨_, _, ec, k3, k4, hrm⟩ := Rd.of_own hst.m
      injection ec with ec _ ed
      subst ec ed
      have HC := Lib.hid (fun w' (hb : Below wo.heap.size wo w') => spec_sumI Ac l.length cc (cpus l) w' (by unfold maxLen; omega) (by simp [cpus]) (hrc.below hb) Hwc.out)
      have HM := Lib.hid (fun w' (hb : Below wo.heap.size wo w') => spec_sumI Am l.length cm (mems l) w' (by unfold maxLen; omega) (by simp [mems]) (hrm.below hb) Hwm.out)
      have HB := Lib.hid hst.bel
      have He : Hid (sumsV l = sums3 (sumF (cpus l)) (sumF (mems l))) := rfl
      clear hst Hst hrc hrm
      generalize sumF (cpus l) = R1 at HC He
      generalize sumF (mems l) = R2 at HM He
      cases R1 with
      | none =>
        rw [two_none] at HC
        cases R2 with
        | none =>
          rw [two_none] at HM
          go_wp2_with fail
          refine (HC.out _ (Below.refl _ _)).mono ?_
          rintro e w1 ⟨rfl, rfl⟩
          go_wp2_with fail
          refine (HM.out _ (Below.refl _ _)).mono ?_
          rintro e w1 ⟨rfl, rfl⟩
          go_wp2_with fail
          go_ret3
          exact ⟨by rw [He.out]; rfl, HB.out⟩
        | some b =>
          rw [two_some] at HM
          go_wp2_with fail
          refine (HC.out _ (Below.refl _ _)).mono ?_
          rintro e w1 ⟨rfl, rfl⟩
          go_wp2_with fail
          refine (HM.out _ (Below.refl _ _)).mono ?_
          rintro e w1 ⟨rfl, rfl⟩
          go_wp2_with fail
          go_ret3
          exact ⟨by rw [He.out]; rfl, HB.out⟩
      | some a =>
        rw [two_some] at HC
        cases R2 with
        | none =>
          rw [two_none] at HM
          go_wp2_with fail
          refine (HC.out _ (Below.refl _ _)).mono ?_
          rintro e w1 ⟨rfl, rfl⟩
          go_wp2_with fail
          refine (HM.out _ (Below.refl _ _)).mono ?_
          rintro e w1 ⟨rfl, rfl⟩
          go_wp2_with fail
          go_ret3
          exact ⟨by rw [He.out]; rfl, HB.out⟩
        | some b =>
          rw [two_some] at HM
          go_wp2_with fail
          refine (HC.out _ (Below.refl _ _)).mono ?_
          rintro e w1 ⟨rfl, rfl⟩
          go_wp2_with fail
          refine (HM.out _ (Below.refl _ _)).mono ?_
          rintro e w1 ⟨rfl, rfl⟩
          go_wp2_with fail
          go_ret3
          exact ⟨by rw [He.out]; rfl, HB.out⟩
end Go.Proofs.Ytcfbkfmkjggcdaa.pod
namespace Go.Proofs.Ytcfbkfmkjggcdaa.ty
open Go.ChangeShapes Go.WideShapes Go.ChangeAt Go.RowKit
set_option linter.unusedVariables false

theorem szPodS (l : List Pod) (f : Nat) (v : Value) (left : Int) (w : World) (h : Lies w f v (.sl 7 l.length (l.flatMap Pod.row))) (hl : LeftN left) :
    Calls Try.prog 16 #[v, .int .i64 left] w fun e w' => e = .returned (.int .i64 (cutN left (l.length + wsum Pod.wt l))) ∧ Below w.heap.size w w' := by
  obtain ⟨A, c, rfl, hc1, hc2, f', rfl, hk⟩ := els_of Pod.row_length h
  unfold maxLen at hc2
  unfold LeftN at hl
  have Hk := Lib.hid hk
  clear h hk
  by_cases h0 : left < l.length
  · have He := Lib.hid (cutN_no (show left < ((l.length + wsum Pod.wt l : Nat) : Int) by omega))
    go_enter Try.func16, Try.ntmps16
    go_wp2_with fail
    go_ret
    exact ⟨by rw [He.out]; rfl, Below.refl _ _⟩
  go_enter Try.func16, Try.ntmps16
  go_wp2_with fail
  go_loopw [1, 5] (fun a i wr => ∃ (j : Nat) (z : Int), j ≤ l.length ∧ i = .int .i64 j ∧ a = .int .i64 z ∧ 0 ≤ z ∧ z ≤ 1048576 ∧ Hid (z = left - l.length - wsum Pod.wt (l.take j)) ∧ Below w.heap.size w wr) (fun _ i _ => l.length - (intOf i).toNat)
  case atStart => exact ⟨0, left - l.length, Nat.zero_le _, rfl, rfl, by omega, by omega, by unfold Hid; simp [wsum], Below.refl _ _⟩
  case round =>
    obtain ⟨j, z, hj, rfl, rfl, hz0, hz1, hin, hbel⟩ := hrel
    by_cases hlt : j < l.length
    · obtain ⟨g, o, rfl, hg, us, hus, hc, hls⟩ := (Hk.out.below hbel).get hlt
      have HC := Lib.hid (szPod l[j] _ us z wr hls ⟨hz0, hz1⟩)
      obtain ⟨A1, c1, A5, c5, A6, c6, rfl, hwf, k1, m1, l1, k5, m5, l5, k6, m6, l6⟩ := Pod.opened hls
      have q0 : wr.cell? ⟨g, o + j * 7, none⟩ = some (.string l[j].name) := hc 0 _ rfl
      have q1 : wr.cell? ⟨g, o + j * 7 + 1, none⟩ = some (.slice A1 l[j].labels.length c1) := hc 1 _ rfl
      have q2 : wr.cell? ⟨g, o + j * 7 + 2, none⟩ = some (.int .i64 l[j].cpu) := hc 2 _ rfl
      have q3 : wr.cell? ⟨g, o + j * 7 + 3, none⟩ = some (.int .i64 l[j].mem) := hc 3 _ rfl
      have q4 : wr.cell? ⟨g, o + j * 7 + 4, none⟩ = some (.int .i64 l[j].rank) := hc 4 _ rfl
      have q5 : wr.cell? ⟨g, o + j * 7 + 5, none⟩ = some (.slice A5 l[j].needs.length c5) := hc 5 _ rfl
      have q6 : wr.cell? ⟨g, o + j * 7 + 6, none⟩ = some (.slice A6 l[j].tolerances.length c6) := hc 6 _ rfl
      have hnext := wsum_take Pod.wt hlt
      have hall := wsum_all Pod.wt l (j + 1)
      have Hbel := Lib.hid hbel
      clear hls hbel hg hus hc hwf k1 m1 l1 k5 m5 l5 k6 m6 l6
      by_cases h1 : z < (l[j].wt : Int)
      · have He := Lib.hid (cutN_no (show left < ((l.length + wsum Pod.wt l : Nat) : Int) by have := hin.out; omega))
        rw [cutN_no h1] at HC
        clear hnext hall hin h1
        generalize l[j] = x at q0 q1 q2 q3 q4 q5 q6 HC
        go_wp2_with fail
        refine HC.out.mono ?_
        rintro e w1 ⟨rfl, hb1⟩
        have Hbel1 := Lib.hid (Hbel.out.trans (hb1.mono Hbel.out.size))
        clear hb1 q0 q1 q2 q3 q4 q5 q6
        go_wp2_with fail
        go_ret
        exact ⟨by rw [He.out]; rfl, Hbel1.out⟩
      · have Hin := Lib.hid (show z - l[j].wt = left - l.length - wsum Pod.wt (l.take (j + 1)) by have := hin.out; omega)
        rw [cutN_yes h1] at HC
        clear hnext hall hin
        generalize l[j] = x at q0 q1 q2 q3 q4 q5 q6 HC h1 Hin
        generalize x.wt = y at HC h1 Hin
        go_wp2_with fail
        refine HC.out.mono ?_
        rintro e w1 ⟨rfl, hb1⟩
        have Hbel1 := Lib.hid (Hbel.out.trans (hb1.mono Hbel.out.size))
        clear hb1 q0 q1 q2 q3 q4 q5 q6
        go_wp2_with fail
        go_roundw
        case rel => exact ⟨j + 1, z - y, by omega, by go_num, rfl, by omega, by omega, Hin.out, Hbel1.out⟩
        case measure => simp [intOf]; omega
    · obtain rfl : j = l.length := by omega
      rw [List.take_of_length_le (Nat.le_refl _)] at hin
      have He := Lib.hid (cutN_yes (show ¬ left < ((l.length + wsum Pod.wt l : Nat) : Int) by have := hin.out; omega))
      have Hin := Lib.hid (show left - ((l.length + wsum Pod.wt l : Nat) : Int) = z by have := hin.out; omega)
      have Hbel := Lib.hid hbel
      clear hin hbel
      go_wp2_with fail
      go_ret
      exact ⟨by rw [He.out, Hin.out]; rfl, Hbel.out⟩
end Go.Proofs.Ytcfbkfmkjggcdaa.ty
namespace Go.Proofs.Ytcfbkfmkjggcdaa.ty
open Go.ChangeShapes Go.WideShapes Go.ChangeAt Go.RowKit
set_option linter.unusedVariables false

theorem TryinfoPod : (Try.prog.info? 33).map (fun i => (i.zero, i.size, i.bytes)) = some (some (.agg #[.string ⟨#[]⟩, .slice none 0 0, .int .i64 0, .int .i64 0, .int .i64 0, .slice none 0 0, .slice none 0 0]), 7, 112) := by kernel_rfl
set_option maxRecDepth 100000 in
theorem toPodS (l : List Pod) (f : Nat) (v : Value) (w : World) (h : Lies w f v (.sl 7 l.length (l.flatMap Pod.row))) (hw : l.length + wsum Pod.wt l ≤ 1048576) :
    Calls Try.prog 18 #[v] w fun e w' => ∃ v', e = .returned v' ∧ OwnRow w' w.heap.size 3 33 7 v' l.length (l.flatMap Pod.row) ∧ Below w.heap.size w w' := by
  obtain ⟨A, c, rfl, hc1, hc2, f', rfl, hk⟩ := els_of Pod.row_length h
  obtain ⟨i0, hi, hz0, hz1, hz2⟩ := info_parts TryinfoPod
  unfold maxLen at hc2
  have Hk := Lib.hid hk
  have Hw := Lib.hid hw
  have hwl : l.length ≤ 1048576 := by omega
  clear h hk hw
  go_enter Try.func18, Try.ntmps18
  go_wp2_with (at_make; refine wpList_make_full _ rfl _ _ 50 rfl w.heap.size 33 i0 _ 7 Try.underlying50 hi hz0 hz1 .i64 .i64 (l.length : Int) (l.length : Int) l.length rfl rfl rfl rfl (by rw [hz2]; omega) (by unfold maxLen; omega) (by simp) ?_)
  intro w1 hown1 hg1
  have hb1 : Below w.heap.size w w1 := (Below.refl _ _).grown hg1 (Nat.le_refl _) (fun b hb => by cases hb)
  obtain ⟨xs, hown⟩ : ∃ xs : List Value, w1.ownsRow w.heap.size 33 7 (.slice (some ⟨w.heap.size, 0, none⟩) l.length l.length) l.length xs := ⟨_, hown1⟩
  have Hown := Lib.hid hown
  have Hb1 := Lib.hid hb1
  clear hown1 hown hb1 hg1
  go_wp2_with fail
  go_loopw [4] (fun i wr => ∃ (j : Nat) (xs : List Value) (F : List Nat), j ≤ l.length ∧ i = .int .i64 j ∧ wr.ownsRow w.heap.size 33 7 (.slice (some ⟨w.heap.size, 0, none⟩) l.length l.length) l.length xs ∧
    OwnS wr w.heap.size 3 (xs.take (j * 7)) ((l.take j).flatMap Pod.row) F ∧ F.Nodup ∧ (∀ x ∈ F, x ≠ w.heap.size) ∧ Below w.heap.size w wr) (fun i _ => l.length - (intOf i).toNat)
  case atStart => exact ⟨0, xs, [], Nat.zero_le _, rfl, Hown.out, by simpa using OwnS.nil, List.nodup_nil, (fun x hx => by cases hx), Hb1.out⟩
  case round =>
    clear Hown Hb1 xs
    obtain ⟨j, xs, F, hj, rfl, hown, ho, hnd, hne, hbel⟩ := hrel
    by_cases hlt : j < l.length
    · obtain ⟨g, o, rfl, hg, us0, hus, hc, hls⟩ := (Hk.out.below hbel).get hlt
      have hwt : l[j].wt ≤ 1048576 := by have h1 := wsum_mem Pod.wt hlt; have h2 := Hw.out; omega
      have HC := Lib.hid (toPod l[j] _ us0 wr hls hwt)
      obtain ⟨A1, c1, A5, c5, A6, c6, rfl, hwf, k1, m1, l1, k5, m5, l5, k6, m6, l6⟩ := Pod.opened hls
      have q0 : wr.cell? ⟨g, o + j * 7, none⟩ = some (.string l[j].name) := hc 0 _ rfl
      have q1 : wr.cell? ⟨g, o + j * 7 + 1, none⟩ = some (.slice A1 l[j].labels.length c1) := hc 1 _ rfl
      have q2 : wr.cell? ⟨g, o + j * 7 + 2, none⟩ = some (.int .i64 l[j].cpu) := hc 2 _ rfl
      have q3 : wr.cell? ⟨g, o + j * 7 + 3, none⟩ = some (.int .i64 l[j].mem) := hc 3 _ rfl
      have q4 : wr.cell? ⟨g, o + j * 7 + 4, none⟩ = some (.int .i64 l[j].rank) := hc 4 _ rfl
      have q5 : wr.cell? ⟨g, o + j * 7 + 5, none⟩ = some (.slice A5 l[j].needs.length c5) := hc 5 _ rfl
      have q6 : wr.cell? ⟨g, o + j * 7 + 6, none⟩ = some (.slice A6 l[j].tolerances.length c6) := hc 6 _ rfl
      have hr1 : (l.take (j + 1)).flatMap Pod.row = (l.take j).flatMap Pod.row ++ l[j].row := by
        rw [List.take_succ_eq_append_getElem hlt, List.flatMap_append]; simp
      have Hr1 := Lib.hid hr1
      have Hown := Lib.hid hown
      have Ho := Lib.hid ho
      have Hbel := Lib.hid hbel
      have hlb : w.heap.size < wr.heap.size := (hown.lt w.heap.size rfl).2
      have Hlb := Lib.hid hlb
      have hrl := Pod.row_length l[j]
      have Hrl := Lib.hid hrl
      clear hls hg hwf hr1 hown ho hbel hlb hus hc hwt hrl k1 m1 l1 k5 m5 l5 k6 m6 l6
      generalize l[j] = x at HC Hr1 Hrl q0 q1 q2 q3 q4 q5 q6
      go_wp2_with fail
      refine HC.out.mono ?_
      rintro e w2 ⟨us, G, rfl, hoG, hnG, hb2⟩
      have hlen : us.length = 7 := by rw [hoG.1, Hrl.out]
      have hown2 := own_below' Hown.out hb2
      have ho2 := Ho.out.below hb2
      have hthere := own_there hown2 (j * 7) us.toArray.size (by simp [hlen]; omega)
      have hone := hoG.one
      have hsize : (Try.prog.info? 33).map (·.size) = some us.toArray.size := by rw [List.size_toArray, hlen]; exact sizePod
      have Hfill := Lib.hid (own_fill hown2 hlt hlen ho2 hnd hne (hoG.lower (Nat.le_trans Hbel.out.size (Nat.le_refl _))) hnG (fun y hy hyG => by have h1 := (Ho.out.range y hy).2; have h2 := (hoG.range y hyG).1; omega) (fun y hy => by have h1 := (hoG.range y hy).1; have h2 := Hlb.out; omega) rfl)
      have Hbel2 := Lib.hid (Hbel.out.trans (hb2.mono Hbel.out.size))
      clear HC hoG hnG hb2 hown2 ho2 Ho hnd hne Hown Hbel q0 q1 q2 q3 q4 q5 q6
      go_wp2_with (first | (refine Go.wpList_store_mid rfl 33 _ _ rfl w.heap.size (j * 7) us.toArray rfl rfl hthere hsize hone ?_) | fail)
      have hf := Hfill.out
      rw [← Hr1.out] at hf
      have hbel3 : Below w.heap.size w (w2.setCells w.heap.size (j * 7) us) := Hbel2.out.grown hf.2.2.2.2 Hbel2.out.size (fun b hb => by injection hb with hb; omega)
      have HF := Lib.hid hf
      have Hbel3 := Lib.hid hbel3
      clear hf hbel3 Hfill hthere hone hsize
      go_wp2_with fail
      go_roundw
      case rel => exact ⟨j + 1, _, _, by omega, by go_num, HF.out.1, HF.out.2.1, HF.out.2.2.1, HF.out.2.2.2.1, Hbel3.out⟩
      case measure => simp [intOf]; omega
    · obtain rfl : j = l.length := by omega
      rw [List.take_of_length_le (Nat.le_refl _)] at ho
      have HR := Lib.hid (own_filled hown (by rw [flat_length' Pod.row_length]) ho hnd hne)
      have Hbel := Lib.hid hbel
      clear hown ho hbel
      go_wp2_with fail
      go_ret
      exact ⟨_, rfl, HR.out, Hbel.out⟩
end Go.Proofs.Ytcfbkfmkjggcdaa.ty
namespace Go.Proofs.Ytcfbkfmkjggcdaa.ty
open Go.ChangeShapes Go.WideShapes Go.ChangeAt Go.RowKit
set_option linter.unusedVariables false

set_option maxRecDepth 100000 in
theorem eqPodS (l : List Pod) (f1 f2 : Nat) (v1 v2 : Value) (w : World) (h1 : Lies w f1 v1 (.sl 7 l.length (l.flatMap Pod.row))) (h2 : Lies w f2 v2 (.sl 7 l.length (l.flatMap Pod.row))) :
    Calls Try.prog 20 #[v1, v2] w fun e w' => e = .returned (.bool true) ∧ Below w.heap.size w w' := by
  obtain ⟨A1, c1, rfl, hc1, hm1, f', rfl, hk1⟩ := els_of Pod.row_length h1
  obtain ⟨A2, c2, rfl, hc2, hm2, f'', rfl, hk2⟩ := els_of Pod.row_length h2
  unfold maxLen at hm1 hm2
  have Hk1 := Lib.hid hk1
  have Hk2 := Lib.hid hk2
  clear h1 h2 hk1 hk2
  go_enter Try.func20, Try.ntmps20
  go_wp2_with fail
  go_loopw [5] (fun i wr => ∃ (j : Nat), j ≤ l.length ∧ i = .int .i64 j ∧ Below w.heap.size w wr) (fun i _ => l.length - (intOf i).toNat)
  case atStart => exact ⟨0, Nat.zero_le _, rfl, Below.refl _ _⟩
  case round =>
    obtain ⟨j, hj, rfl, hbel⟩ := hrel
    by_cases hlt : j < l.length
    · obtain ⟨g1, o1, rfl, hg1, us, hus1, hcc1, hls1⟩ := (Hk1.out.below hbel).get hlt
      obtain ⟨g2, o2, rfl, hg2, us2, hus2, hcc2, hls2⟩ := (Hk2.out.below hbel).get hlt
      have HC := Lib.hid (fun w1 (hb : Below wr.heap.size wr w1) => eqPod l[j] _ _ us us2 w1 (hls1.kept hb.block) (hls2.kept hb.block))
      obtain ⟨A1, c1, A5, c5, A6, c6, rfl, hwf, k1, m1, l1, k5, m5, l5, k6, m6, l6⟩ := Pod.opened hls1
      obtain ⟨B1, d1, B5, d5, B6, d6, rfl, hwf2, k1_, m1_, r1, k5_, m5_, r5, k6_, m6_, r6⟩ := Pod.opened hls2
      have q0 : wr.cell? ⟨g1, o1 + j * 7, none⟩ = some (.string l[j].name) := hcc1 0 _ rfl
      have q1 : wr.cell? ⟨g1, o1 + j * 7 + 1, none⟩ = some (.slice A1 l[j].labels.length c1) := hcc1 1 _ rfl
      have q2 : wr.cell? ⟨g1, o1 + j * 7 + 2, none⟩ = some (.int .i64 l[j].cpu) := hcc1 2 _ rfl
      have q3 : wr.cell? ⟨g1, o1 + j * 7 + 3, none⟩ = some (.int .i64 l[j].mem) := hcc1 3 _ rfl
      have q4 : wr.cell? ⟨g1, o1 + j * 7 + 4, none⟩ = some (.int .i64 l[j].rank) := hcc1 4 _ rfl
      have q5 : wr.cell? ⟨g1, o1 + j * 7 + 5, none⟩ = some (.slice A5 l[j].needs.length c5) := hcc1 5 _ rfl
      have q6 : wr.cell? ⟨g1, o1 + j * 7 + 6, none⟩ = some (.slice A6 l[j].tolerances.length c6) := hcc1 6 _ rfl
      have s0 : wr.cell? ⟨g2, o2 + j * 7, none⟩ = some (.string l[j].name) := hcc2 0 _ rfl
      have s1 : wr.cell? ⟨g2, o2 + j * 7 + 1, none⟩ = some (.slice B1 l[j].labels.length d1) := hcc2 1 _ rfl
      have s2 : wr.cell? ⟨g2, o2 + j * 7 + 2, none⟩ = some (.int .i64 l[j].cpu) := hcc2 2 _ rfl
      have s3 : wr.cell? ⟨g2, o2 + j * 7 + 3, none⟩ = some (.int .i64 l[j].mem) := hcc2 3 _ rfl
      have s4 : wr.cell? ⟨g2, o2 + j * 7 + 4, none⟩ = some (.int .i64 l[j].rank) := hcc2 4 _ rfl
      have s5 : wr.cell? ⟨g2, o2 + j * 7 + 5, none⟩ = some (.slice B5 l[j].needs.length d5) := hcc2 5 _ rfl
      have s6 : wr.cell? ⟨g2, o2 + j * 7 + 6, none⟩ = some (.slice B6 l[j].tolerances.length d6) := hcc2 6 _ rfl
      have Hbel := Lib.hid hbel
      clear hls1 hls2 hbel hg1 hg2 hus1 hus2 hcc1 hcc2 hwf hwf2 l1 r1 k1 m1 k1_ m1_ l5 r5 k5 m5 k5_ m5_ l6 r6 k6 m6 k6_ m6_
      generalize l[j] = x at HC q0 s0 q1 s1 q2 s2 q3 s3 q4 s4 q5 s5 q6 s6
      go_wp2_with fail
      go_region_law (go_simp; go_at_call 10; refine (HC.out _ (Below.refl _ _).drew).mono ?_; rintro e w1 ⟨rfl, hb1⟩)
      all_goals
        have hbel1 := Hbel.out.trans (((Below.refl _ _).drew.trans (hb1.mono (Nat.le_refl _))).mono Hbel.out.size)
        clear hb1 q0 s0 q1 s1 q2 s2 q3 s3 q4 s4 q5 s5 q6 s6
        go_wp2_with fail
        go_roundw
        case rel => exact ⟨j + 1, by omega, by go_num, hbel1⟩
        case measure => simp [intOf]; omega
    · obtain rfl : j = l.length := by omega
      have Hbel := Lib.hid hbel
      clear hbel
      go_wp2_with fail
      go_ret
      exact ⟨rfl, Hbel.out⟩
end Go.Proofs.Ytcfbkfmkjggcdaa.ty
