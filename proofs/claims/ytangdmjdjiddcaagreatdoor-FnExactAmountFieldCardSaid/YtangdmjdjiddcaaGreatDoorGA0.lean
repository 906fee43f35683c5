/- Merged: Base LawStrTo LawStrEq SplitM ArithM UnitM Num. -/
import Derived.WalkKit
import Derived.Below
import Derived.Laws.BytesArg
import Derived.Deep.RegionLaw
import Derived.Deep.QuietTactic
import Derived.BigQuiet
import Derived.RegionTactic
import Derived.BigRegion
import Derived.ShutString
import Derived.Lib.Hide
import Derived.Test.YtangdmjdjiddcaaGreatDoorRows
import Derived.ProofKit
import Derived.OpenShut
import Derived.OwnWalk
import Derived.Lib.ItoaNum
import Derived.Lib.AtoiAllCases
namespace Go.Proofs.YtangdmjdjiddcaaGreatDoor
open Go Go.RowKit

/-- A slice of integers that came in: it is nil; or it leads to a row of cap cells that hold the numbers zs, each fitting its kind. -/
def IsRow (k : IntKind) (w : World) (a : Option Addr) (len cap : Nat) (zs : List Int) : Prop :=
  (a = none ∧ len = 0 ∧ cap = 0 ∧ zs = []) ∨
  ∃ x, a = some x ∧ len ≤ cap ∧ cap ≤ maxLen ∧ zs.length = cap ∧ (∀ i, i < zs.length → w.cell? (x.add i) = some (.int k (zs.getD i 0))) ∧ ∀ n ∈ zs, (Lit.int k n).wf = true
theorem IsRow.at_ {k : IntKind} {w : World} {a : Option Addr} {len cap : Nat} {zs : List Int} (h : IsRow k w a len cap zs) (hl : 0 < len) :
    ∃ g o, a = some ⟨g, o, none⟩ ∧ g < w.heap.size ∧ ∀ j, j < len → (Lit.int k (zs.getD j 0)).wf = true ∧ w.cell? ⟨g, o + j, none⟩ = some (.int k (zs.getD j 0)) := by
  rcases h with ⟨_, rfl, _⟩ | ⟨x, rfl, h1, h2, h3, h4, h5⟩
  · omega
  · obtain ⟨g, o, sp⟩ := x
    have hc := h4 0 (by omega)
    have hsp : sp = none := by simpa [Addr.add] using World.cell?_spot hc
    subst hsp
    refine ⟨g, o, rfl, ?_, fun j hj => ⟨?_, ?_⟩⟩
    · have := World.block_lt_of_cell? w _ hc
      simpa [Addr.add] using this
    · have hj2 : j < zs.length := by omega
      rw [List.getD_eq_getElem?_getD, List.getElem?_eq_getElem hj2]
      exact h5 _ (List.getElem_mem hj2)
    · have := h4 j (by omega)
      rw [Addr.add_lit] at this
      exact this
theorem IsRow.le {k : IntKind} {w : World} {a : Option Addr} {len cap : Nat} {zs : List Int} (h : IsRow k w a len cap zs) : len ≤ maxLen := by
  rcases h with ⟨_, rfl, _⟩ | ⟨x, rfl, h1, h2, _⟩
  · exact Nat.zero_le _
  · omega

theorem ret_int {k : IntKind} {a b : Int} (h : a = b) : Ending.returned (.int k a) = .returned (.int k b) := by rw [h]
theorem ret_str {a b : ByteArray} (h : a = b) : Ending.returned (.string a) = .returned (.string b) := by rw [h]

theorem take_snoc (s : ByteArray) (k : Nat) (h : k < s.size) : s.data.toList.take (k + 1) = s.data.toList.take k ++ [s[k]] := by
  rw [List.take_succ_eq_append_getElem (by simpa using h)]; rfl

theorem bytes_append (l r : List UInt8) : (⟨l.toArray⟩ : ByteArray) ++ ⟨r.toArray⟩ = ⟨(l ++ r).toArray⟩ := by
  apply ByteArray.ext
  simp
theorem bytes_cons (a : UInt8) (r : List UInt8) : (⟨#[a]⟩ : ByteArray) ++ ⟨r.toArray⟩ = ⟨(a :: r).toArray⟩ := bytes_append [a] r

theorem empty_no {f : ByteArray} (h : 0 < f.size) : f.toList.isEmpty = false := by
  rw [ByteArray.toList_eq]
  cases hl : f.data.toList with
  | nil => have : f.data.toList.length = f.size := by simp
           rw [hl] at this; simp at this; omega
  | cons a r => rfl
theorem empty_yes {f : ByteArray} (h : f.size = 0) : f.toList.isEmpty = true := by
  rw [ByteArray.toList_eq]
  cases hl : f.data.toList with
  | nil => rfl
  | cons a r => have : f.data.toList.length = f.size := by simp
                rw [hl] at this; simp at this; omega

/-- Byte i of s as a number; 0 behind its end. -/
def at_ (s : ByteArray) (i : Nat) : Int := ((s.data.toList.getD i 0).toNat : Int)
theorem at_eq (s : ByteArray) (i : Nat) (h : i < s.size) : (s[i].toNat : Int) = at_ s i := by
  unfold at_
  have h2 : i < s.data.toList.length := by simpa using h
  rw [List.getD_eq_getElem?_getD, List.getElem?_eq_getElem h2]
  rfl
theorem at_bd (s : ByteArray) (i : Nat) : 0 ≤ at_ s i ∧ at_ s i < 256 := by
  unfold at_
  have := (s.data.toList.getD i 0).toNat_lt
  omega

/-- The cells of a list of strings. -/
def scells (l : List ByteArray) : List Value := l.map Value.string
theorem scells_length (l : List ByteArray) : (scells l).length = l.length := by simp [scells]
theorem scells_append (l r : List ByteArray) : scells (l ++ r) = scells l ++ scells r := by simp [scells]
theorem scells_get (l : List ByteArray) (i : Nat) (h : i < l.length) : (scells l)[i]? = some (.string l[i]) := by simp [scells, h]

/-- The cells of a list of ints. -/
def icells (l : List Int) : List Value := l.map (Value.int .i64)
theorem icells_length (l : List Int) : (icells l).length = l.length := by simp [icells]
theorem icells_append (l r : List Int) : icells (l ++ r) = icells l ++ icells r := by simp [icells]
theorem icells_get (l : List Int) (i : Nat) (h : i < l.length) : (icells l)[i]? = some (.int .i64 (l.getD i 0)) := by simp [icells, List.getD, h]

/-- The cells of a list of bytes. -/
def bcells (l : List UInt8) : List Value := l.map fun b => .int .u8 b.toNat
theorem bcells_length (l : List UInt8) : (bcells l).length = l.length := by simp [bcells]
theorem bcells_append (l r : List UInt8) : bcells (l ++ r) = bcells l ++ bcells r := by simp [bcells]
theorem bcells_one (l : List UInt8) : ∀ u ∈ bcells l, u.oneCell' = true := by
  intro u hu
  obtain ⟨_, _, rfl⟩ := List.mem_map.1 hu
  rfl

/-- v is a slice of bytes of the call's own (block number from B on), nil or not, that reads as l. -/
def OwnB (w : World) (B : Nat) (e : TypeId) (v : Value) (l : List UInt8) : Prop := w.ownsRow B e 1 v l.length (bcells l)

theorem OwnB.nil (w : World) (B : Nat) (e : TypeId) : OwnB w B e (.slice none 0 0) [] := World.ownsRow_nil _ _ _ _

/-- append onto a slice of the call's own as one step of a region that draws its order. -/
theorem step_append_own {P : Program} {ops : Array Oper} {o : Oper} {a : Act} {w : World} {K : Act → World → Prop} {Q : Exit → Act → World → Prop} {E : Prop}
    (hg : o.guard = none) (s x : Operand) (t : TypeId) (hop : o.op = Op.call { callee := Callee.builtin Builtin.append, args := #[s, x], argTypes := #[t, t] })
    (B : Nat) (e : TypeId) (i : TypeInfo) (z : Value) (size bytes : Nat) (h1 : P.underlying t = some (.slice e)) (h2 : P.info? e = some i) (h3 : i.zero = some z) (h4 : i.size = size) (h5 : i.bytes = bytes) (h6 : z.cells.size = size) (h7 : 0 < size)
    (v : Value) (n : Nat) (xs : List Value) (hs : a.eval s = v) (hown : w.ownsRow B e size v n xs)
    (ad : Addr) (m c : Nat) (news : List Value) (hx : a.eval x = .slice (some ad) m c) (hn : news.length = m * size) (hc : ∀ j u, news[j]? = some u → w.cell? (ad.add j) = some u) (h1c : ∀ u ∈ news, u.oneCell' = true)
    (b1 : n + m ≤ maxLen) (b2 : (n + m) * bytes ≤ 140737488355328) (b3 : B ≤ w.heap.size)
    (hK : ∀ v' w', w'.ownsRow B e size v' (n + m) (xs ++ news) → w.grownBy w' v.ownBlock → K (a.put o.dst v') w') :
    if Region.wanted o (yielded ops a.tmps) = true then Oper.wp P o a w K Q else E := by
  have hw : Region.wanted o (yielded ops a.tmps) = true := by simp [Region.wanted, hg]
  rw [if_pos hw]
  obtain ⟨v', w', hrun, r1, r2, _⟩ := run_append_own (P := P) w B t o.type e i z size bytes h1 h2 h3 h4 h5 h6 h7 v n xs hown ad m c news hn hc h1c b1 b2 b3
  unfold Oper.wp
  simp [execOp, hop, resolve, invoke, builtin, hs, hx, hrun, Result.andThen]
  exact hK v' w' r1 r2

/-- string(b) of a slice of the call's own. -/
theorem run_convert_own {P : Program} (w : World) (src e dst : TypeId) (hs : P.underlying src = some (.slice e)) (he : P.underlying e = some (.int .u8)) (hd : P.underlying dst = some .string)
    (B : Nat) (v : Value) (l : List UInt8) (hown : OwnB w B e v l) : (convert src dst v).run P w = .ok (.string ⟨l.toArray⟩) w := by
  have hown' := hown
  rcases hown'.2 with ⟨rfl, hn⟩ | ⟨g, cap, cur, rfl, hb, hg, hnc, hcm, hcs, htake⟩
  · obtain rfl : l = [] := List.eq_nil_of_length_eq_zero hn
    exact run_convert_bytes_nil w src e hs he 0 0 dst hd
  · have h := run_convert_bytes_arg (P := P) w src e hs he g 0 l.length cap (l.map fun b => (b.toNat : Int)) (by simp) (fun i hi => by
      have hc := hown.cellAt i (by simpa using hi)
      rw [Nat.zero_add, hc]
      simp [bcells, List.getD, hi]) dst hd
    rw [h]
    congr 2
    unfold strOfNums
    congr 2
    rw [List.map_map]
    conv => rhs; rw [← List.map_id l]
    apply List.map_congr_left
    intro b _
    simp

/-- The cells of a literal slice that was just laid. -/
theorem lit_cells (w : World) (cs : Array Value) (t : TypeId) : ∀ j u, cs.toList[j]? = some u → (w.alloc (.cells cs t)).cell? ((⟨w.heap.size, 0, none⟩ : Addr).add j) = some u := by
  intro j u hu
  have hadd : (⟨w.heap.size, 0, none⟩ : Addr).add j = ⟨w.heap.size, j, none⟩ := by unfold Addr.add; split <;> simp_all
  rw [hadd, cell_of_row _ w.heap.size j cs t (0, 0) (heap_alloc_new w _)]
  simpa using hu

/-- The slice with head A, length n reads as the cells xs (one cell an element). -/
def Rd (w : World) (A : Option Addr) (n : Nat) (xs : List Value) : Prop :=
  xs.length = n ∧ (0 < n → ∃ g o, A = some ⟨g, o, none⟩ ∧ g < w.heap.size ∧ ∀ j, j < n → ∀ u, xs[j]? = some u → w.cell? ⟨g, o + j, none⟩ = some u)
theorem Rd.of_own {w : World} {B : Nat} {e : TypeId} {v : Value} {n : Nat} {xs : List Value} (h : w.ownsRow B e 1 v n xs) : ∃ A c, v = .slice A n c ∧ n ≤ c ∧ c ≤ maxLen ∧ Rd w A n xs := by
  have hl : xs.length = n := by have := h.1; omega
  have h0 := h
  rcases h.2 with ⟨rfl, rfl⟩ | ⟨g, cap, cur, rfl, hb, hg, hnc, hcm, hcs, htake⟩
  · exact ⟨none, 0, rfl, Nat.le_refl _, by simp [maxLen], hl, fun h => absurd h (by omega)⟩
  · refine ⟨_, _, rfl, hnc, hcm, hl, fun _ => ⟨g, 0, rfl, (Array.getElem?_eq_some_iff.1 hg).1, fun j hj u hu => ?_⟩⟩
    rw [Nat.zero_add, h0.cellAt j (by omega)]
    exact hu
theorem Rd.of_block {w w' : World} {A : Option Addr} {n : Nat} {xs : List Value} (h : Rd w A n xs) (hk : ∀ g, g < w.heap.size → w'.heap[g]? = w.heap[g]?) : Rd w' A n xs := by
  refine ⟨h.1, fun hn => ?_⟩
  obtain ⟨g, o, rfl, hg, hc⟩ := h.2 hn
  have e := hk g hg
  have hs : g < w'.heap.size := by
    rcases Nat.lt_or_ge g w'.heap.size with h' | h'
    · exact h'
    · rw [Array.getElem?_eq_none h', Array.getElem?_eq_getElem hg] at e; cases e
  exact ⟨g, o, rfl, hs, fun j hj u hu => (World.cell?_of_block e).trans (hc j hj u hu)⟩
theorem Rd.below {w w' : World} {A : Option Addr} {n : Nat} {xs : List Value} (h : Rd w A n xs) (hb : Below w.heap.size w w') : Rd w' A n xs := h.of_block hb.block
theorem Rd.drewN {w : World} {A : Option Addr} {n : Nat} {xs : List Value} (h : Rd w A n xs) (k : Nat) : Rd (w.drewN k) A n xs := h
/-- A package-level variable reads on as it read. -/
theorem var_below {P : Program} {n : String} {cs : Array Value} {w w' : World} (h : w.var? P n = some cs) (hb : Below w.heap.size w w') : w'.var? P n = some cs := by
  unfold World.var? at h ⊢
  cases hg : P.globalNamed n with
  | none => simp [hg] at h
  | some g =>
    simp only [hg, Option.bind_some] at h ⊢
    have hlt : g < w.heap.size := by
      rcases Nat.lt_or_ge g w.heap.size with h' | h'
      · exact h'
      · simp [Array.getElem?_eq_none h'] at h
    rw [hb.block _ hlt]
    exact h
theorem grown_of_below {w w' : World} (h : Below w.heap.size w w') (row : Option Nat) : w.grownBy w' row := ⟨h.os, h.tape, h.output, h.size, fun k hk _ => h.block k hk⟩
theorem grown_trans {a b c : World} {row : Option Nat} (h : a.grownBy b row) (k : b.grownBy c row) : a.grownBy c row :=
  ⟨k.os.trans h.os, k.tape.trans h.tape, k.output.trans h.output, Nat.le_trans h.size k.size, fun i hi hne => (k.block i (Nat.lt_of_lt_of_le hi h.size) hne).trans (h.block i hi hne)⟩
theorem grown_drewN {a b : World} {row : Option Nat} (h : a.grownBy b row) (n : Nat) : a.grownBy (b.drewN n) row := ⟨h.os, h.tape, h.output, h.size, h.block⟩
theorem below_drewN {B : Nat} {a w : World} (h : Below B a w) (n : Nat) : Below B a (w.drewN n) := h.trans ⟨rfl, rfl, rfl, Nat.le_refl _, fun _ _ => rfl⟩

/-- A slice of ints that came in reads as its numbers. -/
theorem Rd.of_row {w : World} {a : Option Addr} {len cap : Nat} {zs : List Int} (h : IsRow .i64 w a len cap zs) : Rd w a len (icells (zs.take len)) ∧ (zs.take len).length = len ∧ ∀ x ∈ zs.take len, (Lit.int .i64 x).wf = true := by
  have hlen : (zs.take len).length = len := by
    rcases h with ⟨_, rfl, _, rfl⟩ | ⟨x, rfl, h1, h2, h3, _⟩
    · rfl
    · rw [List.length_take, h3]; omega
  have hwf : ∀ x ∈ zs.take len, (Lit.int .i64 x).wf = true := by
    rcases h with ⟨_, rfl, _, rfl⟩ | ⟨x, rfl, h1, h2, h3, h4, h5⟩
    · intro x hx; simp at hx
    · intro y hy; exact h5 y (List.mem_of_mem_take hy)
  refine ⟨⟨by rw [icells_length, hlen], fun hl => ?_⟩, hlen, hwf⟩
  obtain ⟨g, o, rfl, hg, hz⟩ := h.at_ hl
  refine ⟨g, o, rfl, hg, fun j hj u hu => ?_⟩
  rw [icells_get _ j (by omega)] at hu
  injection hu with hu
  rw [(hz j hj).2, ← hu]
  congr 2
  simp only [List.getD_eq_getElem?_getD]
  rw [List.getElem?_take_of_lt hj]
theorem i64_bd {n : Int} (h : (Lit.int .i64 n).wf = true) : -9223372036854775808 ≤ n ∧ n ≤ 9223372036854775807 := by
  have e1 : IntKind.i64.min = -9223372036854775808 := rfl
  have e2 : IntKind.i64.max = 9223372036854775807 := rfl
  simp [Lit.wf, e1, e2] at h
  exact h

/-! A block of the call's own that is stored whole. -/
theorem setRow_below {w w' : World} {B g : Nat} (h : Below B w w') (hg : B ≤ g) (c : Array Value) : Below B w (w'.setRow g c) := by
  refine ⟨h.os, h.tape, h.output, by simpa [World.setRow] using h.size, fun k hk => ?_⟩
  rw [← h.block k hk]
  simp only [World.setRow, Array.getElem?_modify]
  rw [if_neg (by omega)]
theorem setRow_at {w : World} {g : Nat} {c c0 : Array Value} {t : TypeId} (h : w.heap[g]? = some (.cells c0 t (0, 0))) : (w.setRow g c).heap[g]? = some (.cells c t (0, 0)) := by
  simp only [World.setRow, Array.getElem?_modify, if_true]
  rw [h]
  rfl
theorem heap_kept {B : Nat} {w w' : World} (h : Below B w w') {g : Nat} (hg : g < B) {o : Obj} (he : w.heap[g]? = some o) : w'.heap[g]? = some o := (h.block g hg).trans he

/-- A block of two cells, stored cell by cell. -/
theorem two_cells {w : World} {g : Nat} {a b : Value} {t : TypeId} (h : w.heap[g]? = some (.cells #[a, b] t (0, 0))) : w.cell? ⟨g, 0, none⟩ = some a ∧ w.cell? ⟨g, 1, none⟩ = some b ∧ w.frozen? ⟨g, 0, none⟩ = false ∧ w.frozen? ⟨g, 1, none⟩ = false := by
  refine ⟨by rw [cell_of_row w g 0 _ t (0, 0) h]; rfl, by rw [cell_of_row w g 1 _ t (0, 0) h]; rfl, ?_, ?_⟩
  · unfold World.frozen?; rw [h]; rfl
  · unfold World.frozen?; rw [h]; rfl
theorem set_two {w : World} {g : Nat} {a b : Value} {t : TypeId} (h : w.heap[g]? = some (.cells #[a, b] t (0, 0))) (x y : Value) : ((w.setCell ⟨g, 0, none⟩ x).setCell ⟨g, 1, none⟩ y).heap[g]? = some (.cells #[x, y] t (0, 0)) := by
  simp [World.setCell, Array.getElem?_modify, h]

theorem set_fst {w : World} {g : Nat} {a b : Value} {t : TypeId} (h : w.heap[g]? = some (.cells #[a, b] t (0, 0))) (x : Value) : (w.setCell ⟨g, 0, none⟩ x).heap[g]? = some (.cells #[x, b] t (0, 0)) := by
  simp [World.setCell, Array.getElem?_modify, h]
theorem set_snd {w : World} {g : Nat} {a b : Value} {t : TypeId} (h : w.heap[g]? = some (.cells #[a, b] t (0, 0))) (x : Value) : (w.setCell ⟨g, 1, none⟩ x).heap[g]? = some (.cells #[a, x] t (0, 0)) := by
  simp [World.setCell, Array.getElem?_modify, h]

end Go.Proofs.YtangdmjdjiddcaaGreatDoor
namespace Go.Proofs.YtangdmjdjiddcaaGreatDoor.lawStr
open Go.ChangeShapes Go.WideShapes Go.ChangeAt Go.RowKit
set_option linter.unusedVariables false

theorem TryzinfoStr : (Tryz.prog.info? 9).map (fun i => (i.zero, i.size, i.bytes)) = some (some (.string ⟨#[]⟩), 1, 16) := by kernel_rfl

theorem to_step (xs : List Value) (l : List ByteArray) (k n : Nat) (hl : l.length = n) (hx : xs.length = n) (hk : k < n) :
    (scells (l.take k) ++ xs.drop k).set k (.string (l.getD k ⟨#[]⟩)) = scells (l.take (k + 1)) ++ xs.drop (k + 1) := by
  have hk2 : k < l.length := by omega
  rw [List.take_succ_eq_append_getElem hk2, scells_append, List.append_assoc]
  have hlen : (scells (l.take k)).length = k := by rw [scells_length, List.length_take]; omega
  rw [List.set_append_right _ _ (by omega)]
  congr 1
  rw [hlen, Nat.sub_self, List.drop_eq_getElem_cons (by omega : k < xs.length), List.set_cons_zero]
  rw [List.getD_eq_getElem?_getD, List.getElem?_eq_getElem hk2]
  rfl

theorem to_any (A : Option Addr) (n c : Nat) (l : List ByteArray) (w : World) (hn : n ≤ 1048576) (hln : l.length = n) (h : Rd w A n (scells l)) :
    Calls Tryz.prog 37 #[.slice A n c] w fun e w' => ∃ g, e = .returned (.slice (some ⟨g, 0, none⟩) n n) ∧ w'.ownsRow w.heap.size 9 1 (.slice (some ⟨g, 0, none⟩) n n) n (scells l) ∧ Below w.heap.size w w' := by
  obtain ⟨i0, hi, hz0, hz1, hz2⟩ := info_parts TryzinfoStr
  have H := Lib.hid h
  have Hl := Lib.hid hln
  clear h hln
  go_enter Tryz.func37, Tryz.ntmps37
  go_wp2_with (at_make; refine wpList_make_full _ rfl _ _ 24 rfl w.heap.size 9 i0 (.string ⟨#[]⟩) 1 Tryz.underlying24 hi hz0 hz1 .i64 .i64 (n : Int) (n : Int) n rfl rfl rfl rfl (by rw [hz2]; omega) (by unfold maxLen; omega) (by simp) ?_)
  intro w1 hown1 hg1
  have hb1 : Below w.heap.size w w1 := (Below.refl _ _).grown hg1 (Nat.le_refl _) (fun b hb => by cases hb)
  obtain ⟨xs, hxl, hown⟩ : ∃ xs : List Value, xs.length = n ∧ w1.ownsRow w.heap.size 9 1 (.slice (some ⟨w.heap.size, 0, none⟩) n n) n xs := ⟨_, by simpa using hown1.1, hown1⟩
  have Hx := Lib.hid hxl
  have Hown := Lib.hid hown
  have Hb1 := Lib.hid hb1
  clear hown1 hown hb1 hg1 hxl
  go_wp2_with fail
  go_loopw [4] (fun i wr => ∃ k : Nat, k ≤ n ∧ i = .int .i64 k ∧ wr.ownsRow w.heap.size 9 1 (.slice (some ⟨w.heap.size, 0, none⟩) n n) n (scells (l.take k) ++ xs.drop k) ∧ Below w.heap.size w wr) (fun i _ => n - (intOf i).toNat)
  case atStart => exact ⟨0, Nat.zero_le _, rfl, by simpa [scells] using Hown.out, Hb1.out⟩
  case round =>
    clear Hown Hb1
    obtain ⟨k, hk, rfl, hown, hbel⟩ := hrel
    by_cases hlt : k < n
    · have hkl : k < l.length := by have := Hl.out; omega
      obtain ⟨g, o, rfl, hg, hc0⟩ := H.out.2 (by omega)
      have hc : wr.cell? ⟨g, o + k, none⟩ = some (.string (l.getD k ⟨#[]⟩)) := (hbel.cell (p := ⟨g, o + k, none⟩) hg).trans (hc0 k hlt _ (by rw [scells_get l k hkl]; simp [List.getD, hkl]))
      have hd := hown.cellAt k (by omega)
      have hf := hown.frozenAt k
      have hln : k < (scells (l.take k) ++ xs.drop k).length := by have := hown.1; omega
      rw [List.getElem?_eq_getElem hln] at hd
      have hst := hown.stored k (.string (l.getD k ⟨#[]⟩))
      rw [to_step xs l k n Hl.out Hx.out hlt] at hst
      have hown2 := hst.1
      have hbel2 : Below w.heap.size w (wr.setCell ⟨w.heap.size, k, none⟩ (.string (l.getD k ⟨#[]⟩))) := hbel.setCell (Nat.le_refl _) _
      clear hst hown hbel hc0 hkl
      generalize (scells (l.take k) ++ xs.drop k)[k] = old at hd
      clear hln
      generalize l.getD k ⟨#[]⟩ = x at hc hown2 hbel2
      have Hown2 := Lib.hid hown2
      have Hbel2 := Lib.hid hbel2
      clear hown2 hbel2
      go_wp2_with fail
      go_roundw
      case rel => exact ⟨k + 1, by omega, by go_num, Hown2.out, Hbel2.out⟩
      case measure => simp [intOf]; omega
    · obtain rfl : k = n := by omega
      rw [List.drop_of_length_le (by have := Hx.out; omega), List.append_nil, List.take_of_length_le (by have := Hl.out; omega)] at hown
      have Hown := Lib.hid hown
      have Hbel := Lib.hid hbel
      clear hown hbel
      go_wp2_with fail
      go_ret
      exact ⟨_, rfl, Hown.out, Hbel.out⟩
end Go.Proofs.YtangdmjdjiddcaaGreatDoor.lawStr
namespace Go.Proofs.YtangdmjdjiddcaaGreatDoor.lawStr
open Go.ChangeShapes Go.WideShapes Go.ChangeAt Go.RowKit
set_option linter.unusedVariables false

theorem eq_yes (A1 A2 : Option Addr) (n c1 c2 : Nat) (l : List ByteArray) (w : World) (hn : n ≤ maxLen) (hln : l.length = n) (h1 : Rd w A1 n (scells l)) (h2 : Rd w A2 n (scells l)) :
    Calls Tryz.prog 39 #[.slice A1 n c1, .slice A2 n c2] w fun e w' => e = .returned (.bool true) ∧ ∃ n, w' = w.drewN n := by
  unfold maxLen at hn
  have H1 := Lib.hid h1
  have H2 := Lib.hid h2
  have Hl := Lib.hid hln
  clear h1 h2 hln
  go_enter Tryz.func39, Tryz.ntmps39
  go_wp2_with fail
  go_loopw [5] (fun i wr => ∃ k : Nat, k ≤ n ∧ i = .int .i64 k ∧ ∃ q, wr = w.drewN q) (fun i _ => n - (intOf i).toNat)
  case atStart => exact ⟨0, Nat.zero_le _, rfl, 0, rfl⟩
  case round =>
    obtain ⟨k, hk, rfl, q, rfl⟩ := hrel
    by_cases hlt : k < n
    · obtain ⟨g1, o1, rfl, _, hc1⟩ := H1.out.2 (by omega)
      obtain ⟨g2, o2, rfl, _, hc2⟩ := H2.out.2 (by omega)
      have d1 : w.cell? ⟨g1, o1 + k, none⟩ = some (.string (l.getD k ByteArray.empty)) := hc1 k hlt _ (by rw [scells_get l k (by have := Hl.out; omega)]; simp [List.getD, Hl.out, hlt])
      have d2 : w.cell? ⟨g2, o2 + k, none⟩ = some (.string (l.getD k ByteArray.empty)) := hc2 k hlt _ (by rw [scells_get l k (by have := Hl.out; omega)]; simp [List.getD, Hl.out, hlt])
      clear hc1 hc2
      generalize l.getD k ByteArray.empty = x at d1 d2
      go_wp2_with fail
      go_quiet (fail)
      go_wp2_with fail
      go_roundw
      case rel => exact ⟨k + 1, by omega, by go_num, _, rfl⟩
      case measure => simp [intOf]; omega
    · go_wp2_with fail
      go_ret
      exact ⟨rfl, _, rfl⟩

end Go.Proofs.YtangdmjdjiddcaaGreatDoor.lawStr
namespace Go.Proofs.YtangdmjdjiddcaaGreatDoor.split
open Go.ChangeShapes Go.WideShapes Go.ChangeAt Go.RowKit
set_option linter.unusedVariables false

def dig (b : UInt8) : Bool := decide (48 ≤ b.toNat) && decide (b.toNat ≤ 57)
def ld : List UInt8 → Nat
  | [] => 0
  | b :: r => if dig b = true then ld r + 1 else 0
theorem ld_le : ∀ l : List UInt8, ld l ≤ l.length
  | [] => Nat.le_refl _
  | b :: r => by
    have := ld_le r
    unfold ld
    split <;> simp only [List.length_cons] <;> omega
theorem ld_dig : ∀ (l : List UInt8) (k : Nat), k < ld l → dig (l.getD k 0) = true
  | [], k, h => by simp [ld] at h
  | b :: r, k, h => by
    unfold ld at h
    split at h
    · next hb =>
      cases k with
      | zero => simpa using hb
      | succ k => have := ld_dig r k (by omega); simpa using this
    · omega
theorem ld_stop : ∀ (l : List UInt8), ld l < l.length → dig (l.getD (ld l) 0) = false
  | [], h => by simp [ld] at h
  | b :: r, h => by
    unfold ld at h ⊢
    by_cases hb : dig b = true
    · rw [if_pos hb] at h ⊢
      have := ld_stop r (by simp only [List.length_cons] at h; omega)
      simpa using this
    · rw [if_neg hb]; simpa using hb
theorem ld_app : ∀ (l r : List UInt8), (∀ c ∈ l, dig c = true) → ld (l ++ r) = l.length + ld r
  | [], r, _ => by simp
  | b :: l, r, h => by
    have ih := ld_app l r (fun c hc => h c (List.mem_cons_of_mem _ hc))
    rw [List.cons_append, ld, if_pos (h b (List.mem_cons_self ..)), ih, List.length_cons]
    omega
def lead (s : ByteArray) : Nat := ld s.data.toList
theorem dig_at (s : ByteArray) (k : Nat) : dig (s.data.toList.getD k 0) = true ↔ 48 ≤ at_ s k ∧ at_ s k ≤ 57 := by
  unfold dig at_
  simp only [Bool.and_eq_true, decide_eq_true_eq]
  omega
theorem lead_le (s : ByteArray) : lead s ≤ s.size := by
  have h := ld_le s.data.toList
  have e : s.data.toList.length = s.size := by simp
  unfold lead
  omega
theorem lead_dig {s : ByteArray} {k : Nat} (h : k < lead s) : 48 ≤ at_ s k ∧ at_ s k ≤ 57 := (dig_at s k).1 (ld_dig _ _ h)
theorem lead_stop {s : ByteArray} (h : lead s < s.size) : ¬ (48 ≤ at_ s (lead s) ∧ at_ s (lead s) ≤ 57) := fun e => by
  have h1 := ld_stop s.data.toList (by have e : s.data.toList.length = s.size := by simp
                                       unfold lead at h; omega)
  have h2 := (dig_at s (lead s)).2 e
  unfold lead at h2
  rw [h1] at h2
  cases h2
theorem lead_go {s : ByteArray} {k : Nat} (h : k ≤ lead s) (hk : k < s.size) (h1 : 48 ≤ at_ s k) (h2 : at_ s k ≤ 57) : k + 1 ≤ lead s := by
  by_cases e : k = lead s
  · subst e; exact absurd ⟨h1, h2⟩ (lead_stop hk)
  · omega
theorem lead_end {s : ByteArray} {k : Nat} (h : k ≤ lead s) (hk : k = s.size ∨ at_ s k < 48 ∨ 57 < at_ s k) : lead s = k := by
  by_cases e : k < lead s
  · have h1 := lead_dig e
    have h2 := lead_le s
    omega
  · omega
/-- The digits, and the rest. -/
def fst (s : ByteArray) : ByteArray := s.extract 0 (lead s)
def snd (s : ByteArray) : ByteArray := s.extract (lead s) s.size
theorem fst_size (s : ByteArray) : (fst s).size = lead s := by
  have := lead_le s
  unfold fst
  simp
  omega
theorem snd_size (s : ByteArray) : (snd s).size = s.size - lead s := by
  have := lead_le s
  unfold snd
  simp
theorem fst_list (s : ByteArray) : (fst s).data.toList = s.data.toList.take (lead s) := by
  unfold fst
  simp
theorem snd_list (s : ByteArray) : (snd s).data.toList = s.data.toList.drop (lead s) := by
  unfold snd
  simp
  rw [List.take_of_length_le]
  simp
theorem mk_eq {s : ByteArray} {l : List UInt8} (h : s.data.toList = l) : s = ⟨l.toArray⟩ := by
  rw [← h]
theorem join (s : ByteArray) : fst s ++ snd s = s := by
  have h : (fst s ++ snd s).data.toList = s.data.toList := by
    simp only [ByteArray.data_append, Array.toList_append, fst_list, snd_list, List.take_append_drop]
  have h2 := mk_eq h
  rw [h2]
end Go.Proofs.YtangdmjdjiddcaaGreatDoor.split
namespace Go.Proofs.YtangdmjdjiddcaaGreatDoor.arith
open Go.ChangeShapes Go.WideShapes Go.ChangeAt Go.RowKit
set_option linter.unusedVariables false

/-- The number of a checked result (0 for none) and whether there is one. -/
def val : Option Int → Int
  | some x => x
  | none => 0
def has : Option Int → Bool
  | some _ => true
  | none => false
def two (o : Option Int) : Value := .tuple #[.int .i64 (val o), .bool (has o)]
theorem two_some (x : Int) : two (some x) = .tuple #[.int .i64 x, .bool true] := rfl
theorem two_none : two none = .tuple #[.int .i64 0, .bool false] := rfl

def addF (a b : Int) : Option Int := if 0 ≤ a ∧ 0 ≤ b ∧ a + b ≤ 9223372036854775807 then some (a + b) else none
def subF (a b : Int) : Option Int := if 0 ≤ b ∧ b ≤ a then some (a - b) else none
def mulF (a b : Int) : Option Int := if 0 ≤ a ∧ 0 ≤ b ∧ a * b ≤ 9223372036854775807 then some (a * b) else none
def cmpF (a b : Int) : Int := if a < b then -1 else if b < a then 1 else 0
def powF (b : Int) : Nat → Option Int
  | 0 => some 1
  | k + 1 => (powF b k).bind fun x => mulF x b
def pow2F (b n : Int) : Option Int := if 0 ≤ b ∧ 0 ≤ n ∧ n ≤ 100 then powF b n.toNat else none
def sumStep (o : Option Int) (x : Int) : Option Int := o.bind fun s => addF s x
def sumF (l : List Int) : Option Int := l.foldl sumStep (some 0)

theorem add_yes {a b : Int} (h0 : 0 ≤ a) (h1 : 0 ≤ b) (h2 : a + b ≤ 9223372036854775807) : addF a b = some (a + b) := by unfold addF; rw [if_pos ⟨h0, h1, h2⟩]
theorem add_no {a b : Int} (h : ¬ (0 ≤ a ∧ 0 ≤ b ∧ a + b ≤ 9223372036854775807)) : addF a b = none := by unfold addF; rw [if_neg h]
theorem add_bd {a b x : Int} (h : addF a b = some x) : 0 ≤ a ∧ 0 ≤ b ∧ x = a + b ∧ x ≤ 9223372036854775807 := by
  unfold addF at h
  split at h
  · injection h with h; rename_i h2; exact ⟨h2.1, h2.2.1, h.symm, h ▸ h2.2.2⟩
  · cases h
theorem sub_yes {a b : Int} (h0 : 0 ≤ b) (h1 : b ≤ a) : subF a b = some (a - b) := by unfold subF; rw [if_pos ⟨h0, h1⟩]
theorem sub_no {a b : Int} (h : ¬ (0 ≤ b ∧ b ≤ a)) : subF a b = none := by unfold subF; rw [if_neg h]
theorem mul_yes {a b : Int} (h0 : 0 ≤ a) (h1 : 0 ≤ b) (h2 : a * b ≤ 9223372036854775807) : mulF a b = some (a * b) := by unfold mulF; rw [if_pos ⟨h0, h1, h2⟩]
theorem mul_no {a b : Int} (h : ¬ (0 ≤ a ∧ 0 ≤ b ∧ a * b ≤ 9223372036854775807)) : mulF a b = none := by unfold mulF; rw [if_neg h]
theorem mul_bd {a b x : Int} (h : mulF a b = some x) : 0 ≤ a ∧ 0 ≤ b ∧ x = a * b ∧ 0 ≤ x ∧ x ≤ 9223372036854775807 := by
  unfold mulF at h
  split at h
  · injection h with h; rename_i h2; exact ⟨h2.1, h2.2.1, h.symm, h ▸ Int.mul_nonneg h2.1 h2.2.1, h ▸ h2.2.2⟩
  · cases h
/-- Room for a product, as the division by b tells it. -/
theorem room {a b : Int} (h1 : 0 < b) : a ≤ 9223372036854775807 / b ↔ a * b ≤ 9223372036854775807 := Int.le_ediv_iff_mul_le h1

theorem pow_zero (b : Int) : powF b 0 = some 1 := rfl
theorem pow_some {b x : Int} {k : Nat} (h : powF b k = some x) : powF b (k + 1) = mulF x b := by show (powF b k).bind _ = _; rw [h]; rfl
theorem pow_none {b : Int} {k : Nat} (h : powF b k = none) : powF b (k + 1) = none := by show (powF b k).bind _ = _; rw [h]; rfl
theorem pow_dead {b : Int} {k : Nat} (h : powF b k = none) : ∀ n, k ≤ n → powF b n = none := by
  intro n hn
  induction n with
  | zero => obtain rfl : k = 0 := by omega
            exact h
  | succ n ih =>
    by_cases e : k = n + 1
    · subst e; exact h
    · exact pow_none (ih (by omega))
theorem pow_bd {b x : Int} {k : Nat} (h : powF b k = some x) : 0 ≤ x ∧ x ≤ 9223372036854775807 := by
  cases k with
  | zero => injection h with h; omega
  | succ k =>
    cases hp : powF b k with
    | none => rw [pow_none hp] at h; cases h
    | some y => rw [pow_some hp] at h; exact (mul_bd h).2.2.2
theorem pow2_yes {b : Int} {n : Nat} (h0 : 0 ≤ b) (h1 : n ≤ 100) : pow2F b n = powF b n := by unfold pow2F; rw [if_pos ⟨h0, by omega, by omega⟩]; rfl
theorem pow2_no {b n : Int} (h : ¬ (0 ≤ b ∧ 0 ≤ n ∧ n ≤ 100)) : pow2F b n = none := by unfold pow2F; rw [if_neg h]

theorem sum_zero (l : List Int) : sumF (l.take 0) = some 0 := by simp [sumF]
theorem sum_take {l : List Int} {k : Nat} (hk : k < l.length) : sumF (l.take (k + 1)) = (sumF (l.take k)).bind fun s => addF s (l.getD k 0) := by
  rw [List.take_succ_eq_append_getElem hk]
  unfold sumF
  rw [List.foldl_append, List.getD_eq_getElem?_getD, List.getElem?_eq_getElem hk]
  rfl
theorem sum_go {l : List Int} {k : Nat} {s : Int} (hk : k < l.length) (h : sumF (l.take k) = some s) : sumF (l.take (k + 1)) = addF s (l.getD k 0) := by rw [sum_take hk, h]; rfl
theorem sum_dead {l : List Int} {k : Nat} (h : sumF (l.take k) = none) : sumF l = none := by
  have e : sumF l = (l.drop k).foldl sumStep (sumF (l.take k)) := by
    unfold sumF
    rw [← List.foldl_append, List.take_append_drop]
  rw [e, h]
  clear e h
  induction l.drop k with
  | nil => rfl
  | cons a r ih => exact ih
theorem sum_bd : ∀ (k : Nat) {l : List Int} {s : Int}, k ≤ l.length → sumF (l.take k) = some s → 0 ≤ s ∧ s ≤ 9223372036854775807
  | 0, l, s, _, h => by rw [sum_zero] at h; injection h with h; omega
  | k + 1, l, s, hk, h => by
    cases hp : sumF (l.take k) with
    | none => rw [sum_take (by omega), hp] at h; cases h
    | some y =>
      rw [sum_go (by omega) hp] at h
      have := sum_bd k (by omega) hp
      have := add_bd h
      omega

end Go.Proofs.YtangdmjdjiddcaaGreatDoor.arith
namespace Go.Proofs.YtangdmjdjiddcaaGreatDoor.unit
open Go.ChangeShapes Go.WideShapes Go.ChangeAt Go.RowKit
set_option linter.unusedVariables false

def names : List (List UInt8) := [[], [109], [107], [77], [71], [84], [75, 105], [77, 105], [71, 105], [84, 105]]
def vals : List Int := [1000, 1, 1000000, 1000000000, 1000000000000, 1000000000000000, 1024000, 1048576000, 1073741824000, 1099511627776000]
def bytes (l : List UInt8) : ByteArray := ⟨l.toArray⟩
def texts : List ByteArray := names.map bytes
def find : List (List UInt8) → List Int → List UInt8 → Option Int
  | n :: ns, v :: vs, l => if n = l then some v else find ns vs l
  | _, _, _ => none
def unitL (l : List UInt8) : Option Int := find names vals l
def unitF (s : ByteArray) : Option Int := unitL s.data.toList
theorem find_none : ∀ (ns : List (List UInt8)) (vs : List Int) (l : List UInt8), (∀ n ∈ ns, n ≠ l) → find ns vs l = none
  | [], _, _, _ => by simp [find]
  | _ :: _, [], _, _ => by simp [find]
  | n :: ns, v :: vs, l, h => by
    rw [find, if_neg (h n (List.mem_cons_self ..))]
    exact find_none ns vs l (fun m hm => h m (List.mem_cons_of_mem _ hm))
theorem find_mem : ∀ (ns : List (List UInt8)) (vs : List Int) (l : List UInt8) (x : Int), find ns vs l = some x → x ∈ vs
  | [], _, _, _, h => by simp [find] at h
  | _ :: _, [], _, _, h => by simp [find] at h
  | n :: ns, v :: vs, l, x, h => by
    rw [find] at h
    split at h
    · injection h with h; subst h; exact List.mem_cons_self ..
    · exact List.mem_cons_of_mem _ (find_mem ns vs l x h)
theorem unit_bd {s : ByteArray} {x : Int} (h : unitF s = some x) : 0 < x ∧ x ≤ 1099511627776000 := by
  have := find_mem _ _ _ _ h
  simp only [vals, List.mem_cons, List.not_mem_nil, or_false] at this
  omega
theorem hit : ∀ i, i < 10 → unitL (names.getD i []) = some (vals.getD i 0) := by decide
theorem miss {l : List UInt8} (h : ∀ j, j < 10 → names.getD j [] ≠ l) : unitL l = none := by
  refine find_none _ _ _ fun n hn => ?_
  obtain ⟨j, hj, rfl⟩ := List.mem_iff_getElem.1 hn
  have := h j hj
  rwa [List.getD_eq_getElem?_getD, List.getElem?_eq_getElem hj] at this
theorem or_miss (l : List UInt8) : (∃ j, j < 10 ∧ names.getD j [] = l) ∨ (∀ j, j < 10 → names.getD j [] ≠ l) := by
  by_cases h : ∃ j, j < 10 ∧ names.getD j [] = l
  · exact .inl h
  · exact .inr fun j hj e => h ⟨j, hj, e⟩
theorem texts_get (j : Nat) (h : j < 10) : (scells texts)[j]? = some (.string (bytes (names.getD j []))) := by
  have hj : j < names.length := h
  simp [scells, texts, List.getElem?_map, List.getElem?_eq_getElem hj, List.getD]
theorem icells_vals (j : Nat) (h : j < 10) : (icells vals)[j]? = some (.int .i64 (vals.getD j 0)) := icells_get vals j h
theorem bytes_eq {s : ByteArray} {l : List UInt8} (h : bytes l = s) : l = s.data.toList := by rw [← h]; rfl
end Go.Proofs.YtangdmjdjiddcaaGreatDoor.unit
namespace Go.Proofs.YtangdmjdjiddcaaGreatDoor.num
open Go

def isD (c : UInt8) : Prop := 48 ≤ c.toNat ∧ c.toNat ≤ 57
def stepD (n : Nat) (c : UInt8) : Nat := 10 * n + (c.toNat - 48)
def foldD (acc : Nat) (l : List UInt8) : Nat := l.foldl stepD acc
theorem foldD_nil (acc : Nat) : foldD acc [] = acc := by simp only [foldD, List.foldl_nil]
theorem foldD_cons (acc : Nat) (c : UInt8) (r : List UInt8) : foldD acc (c :: r) = foldD (10 * acc + (c.toNat - 48)) r := by simp only [foldD, List.foldl_cons, stepD]
theorem foldD_snoc (l : List UInt8) (c : UInt8) (acc : Nat) : foldD acc (l ++ [c]) = 10 * foldD acc l + (c.toNat - 48) := by simp only [foldD, List.foldl_append, List.foldl_cons, List.foldl_nil, stepD]
theorem foldD_ge (l : List UInt8) : ∀ acc : Nat, acc ≤ foldD acc l := by
  induction l with
  | nil => intro acc; rw [foldD_nil]; exact Nat.le_refl _
  | cons c l ih =>
    intro acc
    rw [foldD_cons]
    exact Nat.le_trans (by omega) (ih _)
theorem foldD_lt (l : List UInt8) : ∀ (acc k : Nat), (∀ c ∈ l, isD c) → acc < 10 ^ k → foldD acc l < 10 ^ (k + l.length) := by
  induction l with
  | nil => intro acc k _ h; rw [foldD_nil]; exact h
  | cons c l ih =>
    intro acc k hd h
    have hc := hd c (by simp)
    unfold isD at hc
    have h2 : 10 * acc + (c.toNat - 48) < 10 ^ (k + 1) := by
      rw [Nat.pow_succ]
      generalize 10 ^ k = m at h
      omega
    rw [foldD_cons]
    have := ih _ (k + 1) (fun x hx => hd x (by simp [hx])) h2
    rw [List.length_cons, show k + (l.length + 1) = k + 1 + l.length by omega]
    exact this

theorem dec_isD (u : Nat) : ∀ c ∈ Lib.decDigits u, isD c := by
  induction u using Nat.strongRecOn with
  | _ u ih =>
    intro c hc
    rw [Lib.decDigits] at hc
    by_cases h : u < 10
    · rw [dif_pos h] at hc
      simp only [List.mem_singleton] at hc
      subst hc
      unfold isD
      simp
      omega
    · rw [dif_neg h] at hc
      rcases List.mem_append.1 hc with h1 | h1
      · exact ih (u / 10) (by omega) c h1
      · simp only [List.mem_singleton] at h1
        subst h1
        unfold isD
        simp
        omega
theorem dec_fold (u : Nat) : foldD 0 (Lib.decDigits u) = u := by
  induction u using Nat.strongRecOn with
  | _ u ih =>
    rw [Lib.decDigits]
    by_cases h : u < 10
    · rw [dif_pos h, foldD_cons, foldD_nil]; simp; omega
    · rw [dif_neg h, foldD_snoc, ih (u / 10) (by omega)]
      simp
      omega
theorem dec_ne (u : Nat) : Lib.decDigits u ≠ [] := by
  rw [Lib.decDigits]
  by_cases h : u < 10
  · rw [dif_pos h]; simp
  · rw [dif_neg h]; simp
theorem dec_len : ∀ (k u : Nat), u < 10 ^ (k + 1) → (Lib.decDigits u).length ≤ k + 1
  | 0, u, h => by rw [Lib.decDigits, dif_pos (by simpa using h)]; simp
  | k + 1, u, h => by
    rw [Lib.decDigits]
    by_cases h1 : u < 10
    · rw [dif_pos h1]; simp
    · rw [dif_neg h1]
      have := dec_len k (u / 10) (by rw [Nat.pow_succ] at h; omega)
      simp; omega

theorem parse_fold (l : List UInt8) : ∀ acc : Nat, (∀ c ∈ l, isD c) → foldD acc l < 9223372036854775808 → Lib.parseUint10 acc l = .ok (foldD acc l) := by
  induction l with
  | nil => intro acc _ _; rw [foldD_nil, Lib.parseUint10]
  | cons c l ih =>
    intro acc hd hb
    have hc := hd c (by simp)
    unfold isD at hc
    rw [foldD_cons] at hb ⊢
    have hge := foldD_ge l (10 * acc + (c.toNat - 48))
    have hr := ih (10 * acc + (c.toNat - 48)) (fun x hx => hd x (by simp [hx])) hb
    have h2 : 10 * acc + (c.toNat - 48) < 9223372036854775808 := Nat.lt_of_le_of_lt hge hb
    rw [Lib.parseUint10, if_pos hc, if_neg (by omega), if_neg (by omega), show acc * 10 + (c.toNat - 48) = 10 * acc + (c.toNat - 48) by omega]
    exact hr

theorem itoa_nat (u : Nat) : Lib.itoa (u : Int) = Lib.decDigits u := by unfold Lib.itoa; rw [if_neg (by omega)]; simp
theorem atoi_dec (u : Nat) (h : u < 9223372036854775808) : Lib.atoiAll (Lib.decDigits u) = .ok (u : Int) := by
  have hne := dec_ne u
  have hd := dec_isD u
  have hf := dec_fold u
  have hp := parse_fold (Lib.decDigits u) 0 hd (by rw [hf]; exact h)
  rw [hf] at hp
  cases hl : Lib.decDigits u with
  | nil => exact absurd hl hne
  | cons c r =>
    rw [hl] at hd hp
    have hc := hd c (by simp)
    unfold isD at hc
    rw [Lib.atoiAll_plain c r (by omega) (by omega)]
    unfold Lib.parseMag
    rw [if_neg (by simp), hp]
    unfold Lib.signless
    simp only
    rw [if_neg (by omega)]
end Go.Proofs.YtangdmjdjiddcaaGreatDoor.num
