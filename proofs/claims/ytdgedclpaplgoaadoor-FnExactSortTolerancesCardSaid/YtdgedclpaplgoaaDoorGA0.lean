/- Merged: Base MarkM WdM DrewM WdS QuietB GrB CutM. -/
import Derived.WalkKit
import Derived.Below
import Derived.Laws.BytesArg
import Derived.Deep.RegionLaw
import Derived.Deep.QuietTactic
import Derived.BigQuiet
import Derived.RegionTactic
import Derived.BigRegion
import Derived.ShutString
import Derived.Lib.Hide
import Derived.Test.YtdgedclpaplgoaaDoorRows
import Derived.ProofKit
import Derived.OpenShut
import Derived.Sort.Grow
namespace Go.Proofs.YtdgedclpaplgoaaDoor
open Go Go.RowKit

/-- A slice of integers that came in: it is nil; or it leads to a row of cap cells that hold the numbers zs, each fitting its kind. -/
def IsRow (k : IntKind) (w : World) (a : Option Addr) (len cap : Nat) (zs : List Int) : Prop :=
  (a = none ∧ len = 0 ∧ cap = 0 ∧ zs = []) ∨
  ∃ x, a = some x ∧ len ≤ cap ∧ cap ≤ maxLen ∧ zs.length = cap ∧ (∀ i, i < zs.length → w.cell? (x.add i) = some (.int k (zs.getD i 0))) ∧ ∀ n ∈ zs, (Lit.int k n).wf = true
theorem IsRow.at_ {k : IntKind} {w : World} {a : Option Addr} {len cap : Nat} {zs : List Int} (h : IsRow k w a len cap zs) (hl : 0 < len) :
    ∃ g o, a = some ⟨g, o, none⟩ ∧ g < w.heap.size ∧ ∀ j, j < len → (Lit.int k (zs.getD j 0)).wf = true ∧ w.cell? ⟨g, o + j, none⟩ = some (.int k (zs.getD j 0)) := by
  rcases h with ⟨_, rfl, _⟩ | ⟨x, rfl, h1, h2, h3, h4, h5⟩
  · omega
  · obtain ⟨g, o, sp⟩ := x
    have hc := h4 0 (by omega)
    have hsp : sp = none := by simpa [Addr.add] using World.cell?_spot hc
    subst hsp
    refine ⟨g, o, rfl, ?_, fun j hj => ⟨?_, ?_⟩⟩
    · have := World.block_lt_of_cell? w _ hc
      simpa [Addr.add] using this
    · have hj2 : j < zs.length := by omega
      rw [List.getD_eq_getElem?_getD, List.getElem?_eq_getElem hj2]
      exact h5 _ (List.getElem_mem hj2)
    · have := h4 j (by omega)
      rw [Addr.add_lit] at this
      exact this
theorem IsRow.le {k : IntKind} {w : World} {a : Option Addr} {len cap : Nat} {zs : List Int} (h : IsRow k w a len cap zs) : len ≤ maxLen := by
  rcases h with ⟨_, rfl, _⟩ | ⟨x, rfl, h1, h2, _⟩
  · exact Nat.zero_le _
  · omega

theorem ret_int {k : IntKind} {a b : Int} (h : a = b) : Ending.returned (.int k a) = .returned (.int k b) := by rw [h]
theorem ret_str {a b : ByteArray} (h : a = b) : Ending.returned (.string a) = .returned (.string b) := by rw [h]

theorem take_snoc (s : ByteArray) (k : Nat) (h : k < s.size) : s.data.toList.take (k + 1) = s.data.toList.take k ++ [s[k]] := by
  rw [List.take_succ_eq_append_getElem (by simpa using h)]; rfl

theorem bytes_append (l r : List UInt8) : (⟨l.toArray⟩ : ByteArray) ++ ⟨r.toArray⟩ = ⟨(l ++ r).toArray⟩ := by
  apply ByteArray.ext
  simp
theorem bytes_cons (a : UInt8) (r : List UInt8) : (⟨#[a]⟩ : ByteArray) ++ ⟨r.toArray⟩ = ⟨(a :: r).toArray⟩ := bytes_append [a] r

theorem empty_no {f : ByteArray} (h : 0 < f.size) : f.toList.isEmpty = false := by
  rw [ByteArray.toList_eq]
  cases hl : f.data.toList with
  | nil => have : f.data.toList.length = f.size := by simp
           rw [hl] at this; simp at this; omega
  | cons a r => rfl
theorem empty_yes {f : ByteArray} (h : f.size = 0) : f.toList.isEmpty = true := by
  rw [ByteArray.toList_eq]
  cases hl : f.data.toList with
  | nil => rfl
  | cons a r => have : f.data.toList.length = f.size := by simp
                rw [hl] at this; simp at this; omega

/-- Byte i of s as a number; 0 behind its end. -/
def at_ (s : ByteArray) (i : Nat) : Int := ((s.data.toList.getD i 0).toNat : Int)
theorem at_eq (s : ByteArray) (i : Nat) (h : i < s.size) : (s[i].toNat : Int) = at_ s i := by
  unfold at_
  have h2 : i < s.data.toList.length := by simpa using h
  rw [List.getD_eq_getElem?_getD, List.getElem?_eq_getElem h2]
  rfl
theorem at_bd (s : ByteArray) (i : Nat) : 0 ≤ at_ s i ∧ at_ s i < 256 := by
  unfold at_
  have := (s.data.toList.getD i 0).toNat_lt
  omega

/-- The cells of a list of strings. -/
def scells (l : List ByteArray) : List Value := l.map Value.string
theorem scells_length (l : List ByteArray) : (scells l).length = l.length := by simp [scells]
theorem scells_append (l r : List ByteArray) : scells (l ++ r) = scells l ++ scells r := by simp [scells]
theorem scells_get (l : List ByteArray) (i : Nat) (h : i < l.length) : (scells l)[i]? = some (.string l[i]) := by simp [scells, h]

/-- The cells of a list of ints. -/
def icells (l : List Int) : List Value := l.map (Value.int .i64)
theorem icells_length (l : List Int) : (icells l).length = l.length := by simp [icells]
theorem icells_append (l r : List Int) : icells (l ++ r) = icells l ++ icells r := by simp [icells]
theorem icells_get (l : List Int) (i : Nat) (h : i < l.length) : (icells l)[i]? = some (.int .i64 (l.getD i 0)) := by simp [icells, List.getD, h]

/-- The cells of a list of bytes. -/
def bcells (l : List UInt8) : List Value := l.map fun b => .int .u8 b.toNat
theorem bcells_length (l : List UInt8) : (bcells l).length = l.length := by simp [bcells]
theorem bcells_append (l r : List UInt8) : bcells (l ++ r) = bcells l ++ bcells r := by simp [bcells]
theorem bcells_one (l : List UInt8) : ∀ u ∈ bcells l, u.oneCell' = true := by
  intro u hu
  obtain ⟨_, _, rfl⟩ := List.mem_map.1 hu
  rfl

/-- v is a slice of bytes of the call's own (block number from B on), nil or not, that reads as l. -/
def OwnB (w : World) (B : Nat) (e : TypeId) (v : Value) (l : List UInt8) : Prop := w.ownsRow B e 1 v l.length (bcells l)

theorem OwnB.nil (w : World) (B : Nat) (e : TypeId) : OwnB w B e (.slice none 0 0) [] := World.ownsRow_nil _ _ _ _

/-- append onto a slice of the call's own as one step of a region that draws its order. -/
theorem step_append_own {P : Program} {ops : Array Oper} {o : Oper} {a : Act} {w : World} {K : Act → World → Prop} {Q : Exit → Act → World → Prop} {E : Prop}
    (hg : o.guard = none) (s x : Operand) (t : TypeId) (hop : o.op = Op.call { callee := Callee.builtin Builtin.append, args := #[s, x], argTypes := #[t, t] })
    (B : Nat) (e : TypeId) (i : TypeInfo) (z : Value) (size bytes : Nat) (h1 : P.underlying t = some (.slice e)) (h2 : P.info? e = some i) (h3 : i.zero = some z) (h4 : i.size = size) (h5 : i.bytes = bytes) (h6 : z.cells.size = size) (h7 : 0 < size)
    (v : Value) (n : Nat) (xs : List Value) (hs : a.eval s = v) (hown : w.ownsRow B e size v n xs)
    (ad : Addr) (m c : Nat) (news : List Value) (hx : a.eval x = .slice (some ad) m c) (hn : news.length = m * size) (hc : ∀ j u, news[j]? = some u → w.cell? (ad.add j) = some u) (h1c : ∀ u ∈ news, u.oneCell' = true)
    (b1 : n + m ≤ maxLen) (b2 : (n + m) * bytes ≤ 140737488355328) (b3 : B ≤ w.heap.size)
    (hK : ∀ v' w', w'.ownsRow B e size v' (n + m) (xs ++ news) → w.grownBy w' v.ownBlock → K (a.put o.dst v') w') :
    if Region.wanted o (yielded ops a.tmps) = true then Oper.wp P o a w K Q else E := by
  have hw : Region.wanted o (yielded ops a.tmps) = true := by simp [Region.wanted, hg]
  rw [if_pos hw]
  obtain ⟨v', w', hrun, r1, r2, _⟩ := run_append_own (P := P) w B t o.type e i z size bytes h1 h2 h3 h4 h5 h6 h7 v n xs hown ad m c news hn hc h1c b1 b2 b3
  unfold Oper.wp
  simp [execOp, hop, resolve, invoke, builtin, hs, hx, hrun, Result.andThen]
  exact hK v' w' r1 r2

/-- string(b) of a slice of the call's own. -/
theorem run_convert_own {P : Program} (w : World) (src e dst : TypeId) (hs : P.underlying src = some (.slice e)) (he : P.underlying e = some (.int .u8)) (hd : P.underlying dst = some .string)
    (B : Nat) (v : Value) (l : List UInt8) (hown : OwnB w B e v l) : (convert src dst v).run P w = .ok (.string ⟨l.toArray⟩) w := by
  have hown' := hown
  rcases hown'.2 with ⟨rfl, hn⟩ | ⟨g, cap, cur, rfl, hb, hg, hnc, hcm, hcs, htake⟩
  · obtain rfl : l = [] := List.eq_nil_of_length_eq_zero hn
    exact run_convert_bytes_nil w src e hs he 0 0 dst hd
  · have h := run_convert_bytes_arg (P := P) w src e hs he g 0 l.length cap (l.map fun b => (b.toNat : Int)) (by simp) (fun i hi => by
      have hc := hown.cellAt i (by simpa using hi)
      rw [Nat.zero_add, hc]
      simp [bcells, List.getD, hi]) dst hd
    rw [h]
    congr 2
    unfold strOfNums
    congr 2
    rw [List.map_map]
    conv => rhs; rw [← List.map_id l]
    apply List.map_congr_left
    intro b _
    simp

/-- The cells of a literal slice that was just laid. -/
theorem lit_cells (w : World) (cs : Array Value) (t : TypeId) : ∀ j u, cs.toList[j]? = some u → (w.alloc (.cells cs t)).cell? ((⟨w.heap.size, 0, none⟩ : Addr).add j) = some u := by
  intro j u hu
  have hadd : (⟨w.heap.size, 0, none⟩ : Addr).add j = ⟨w.heap.size, j, none⟩ := by unfold Addr.add; split <;> simp_all
  rw [hadd, cell_of_row _ w.heap.size j cs t (0, 0) (heap_alloc_new w _)]
  simpa using hu

/-- The slice with head A, length n reads as the cells xs (one cell an element). -/
def Rd (w : World) (A : Option Addr) (n : Nat) (xs : List Value) : Prop :=
  xs.length = n ∧ (0 < n → ∃ g o, A = some ⟨g, o, none⟩ ∧ g < w.heap.size ∧ ∀ j, j < n → ∀ u, xs[j]? = some u → w.cell? ⟨g, o + j, none⟩ = some u)
theorem Rd.of_own {w : World} {B : Nat} {e : TypeId} {v : Value} {n : Nat} {xs : List Value} (h : w.ownsRow B e 1 v n xs) : ∃ A c, v = .slice A n c ∧ n ≤ c ∧ c ≤ maxLen ∧ Rd w A n xs := by
  have hl : xs.length = n := by have := h.1; omega
  have h0 := h
  rcases h.2 with ⟨rfl, rfl⟩ | ⟨g, cap, cur, rfl, hb, hg, hnc, hcm, hcs, htake⟩
  · exact ⟨none, 0, rfl, Nat.le_refl _, by simp [maxLen], hl, fun h => absurd h (by omega)⟩
  · refine ⟨_, _, rfl, hnc, hcm, hl, fun _ => ⟨g, 0, rfl, (Array.getElem?_eq_some_iff.1 hg).1, fun j hj u hu => ?_⟩⟩
    rw [Nat.zero_add, h0.cellAt j (by omega)]
    exact hu
theorem Rd.of_block {w w' : World} {A : Option Addr} {n : Nat} {xs : List Value} (h : Rd w A n xs) (hk : ∀ g, g < w.heap.size → w'.heap[g]? = w.heap[g]?) : Rd w' A n xs := by
  refine ⟨h.1, fun hn => ?_⟩
  obtain ⟨g, o, rfl, hg, hc⟩ := h.2 hn
  have e := hk g hg
  have hs : g < w'.heap.size := by
    rcases Nat.lt_or_ge g w'.heap.size with h' | h'
    · exact h'
    · rw [Array.getElem?_eq_none h', Array.getElem?_eq_getElem hg] at e; cases e
  exact ⟨g, o, rfl, hs, fun j hj u hu => (World.cell?_of_block e).trans (hc j hj u hu)⟩
theorem Rd.below {w w' : World} {A : Option Addr} {n : Nat} {xs : List Value} (h : Rd w A n xs) (hb : Below w.heap.size w w') : Rd w' A n xs := h.of_block hb.block
theorem Rd.drewN {w : World} {A : Option Addr} {n : Nat} {xs : List Value} (h : Rd w A n xs) (k : Nat) : Rd (w.drewN k) A n xs := h
/-- A package-level variable reads on as it read. -/
theorem var_below {P : Program} {n : String} {cs : Array Value} {w w' : World} (h : w.var? P n = some cs) (hb : Below w.heap.size w w') : w'.var? P n = some cs := by
  unfold World.var? at h ⊢
  cases hg : P.globalNamed n with
  | none => simp [hg] at h
  | some g =>
    simp only [hg, Option.bind_some] at h ⊢
    have hlt : g < w.heap.size := by
      rcases Nat.lt_or_ge g w.heap.size with h' | h'
      · exact h'
      · simp [Array.getElem?_eq_none h'] at h
    rw [hb.block _ hlt]
    exact h
theorem grown_of_below {w w' : World} (h : Below w.heap.size w w') (row : Option Nat) : w.grownBy w' row := ⟨h.os, h.tape, h.output, h.size, fun k hk _ => h.block k hk⟩
theorem grown_trans {a b c : World} {row : Option Nat} (h : a.grownBy b row) (k : b.grownBy c row) : a.grownBy c row :=
  ⟨k.os.trans h.os, k.tape.trans h.tape, k.output.trans h.output, Nat.le_trans h.size k.size, fun i hi hne => (k.block i (Nat.lt_of_lt_of_le hi h.size) hne).trans (h.block i hi hne)⟩
theorem grown_drewN {a b : World} {row : Option Nat} (h : a.grownBy b row) (n : Nat) : a.grownBy (b.drewN n) row := ⟨h.os, h.tape, h.output, h.size, h.block⟩
theorem below_drewN {B : Nat} {a w : World} (h : Below B a w) (n : Nat) : Below B a (w.drewN n) := h.trans ⟨rfl, rfl, rfl, Nat.le_refl _, fun _ _ => rfl⟩

/-- A slice of ints that came in reads as its numbers. -/
theorem Rd.of_row {w : World} {a : Option Addr} {len cap : Nat} {zs : List Int} (h : IsRow .i64 w a len cap zs) : Rd w a len (icells (zs.take len)) ∧ (zs.take len).length = len ∧ ∀ x ∈ zs.take len, (Lit.int .i64 x).wf = true := by
  have hlen : (zs.take len).length = len := by
    rcases h with ⟨_, rfl, _, rfl⟩ | ⟨x, rfl, h1, h2, h3, _⟩
    · rfl
    · rw [List.length_take, h3]; omega
  have hwf : ∀ x ∈ zs.take len, (Lit.int .i64 x).wf = true := by
    rcases h with ⟨_, rfl, _, rfl⟩ | ⟨x, rfl, h1, h2, h3, h4, h5⟩
    · intro x hx; simp at hx
    · intro y hy; exact h5 y (List.mem_of_mem_take hy)
  refine ⟨⟨by rw [icells_length, hlen], fun hl => ?_⟩, hlen, hwf⟩
  obtain ⟨g, o, rfl, hg, hz⟩ := h.at_ hl
  refine ⟨g, o, rfl, hg, fun j hj u hu => ?_⟩
  rw [icells_get _ j (by omega)] at hu
  injection hu with hu
  rw [(hz j hj).2, ← hu]
  congr 2
  simp only [List.getD_eq_getElem?_getD]
  rw [List.getElem?_take_of_lt hj]
theorem i64_bd {n : Int} (h : (Lit.int .i64 n).wf = true) : -9223372036854775808 ≤ n ∧ n ≤ 9223372036854775807 := by
  have e1 : IntKind.i64.min = -9223372036854775808 := rfl
  have e2 : IntKind.i64.max = 9223372036854775807 := rfl
  simp [Lit.wf, e1, e2] at h
  exact h

/-! A block of the call's own that is stored whole. -/
theorem setRow_below {w w' : World} {B g : Nat} (h : Below B w w') (hg : B ≤ g) (c : Array Value) : Below B w (w'.setRow g c) := by
  refine ⟨h.os, h.tape, h.output, by simpa [World.setRow] using h.size, fun k hk => ?_⟩
  rw [← h.block k hk]
  simp only [World.setRow, Array.getElem?_modify]
  rw [if_neg (by omega)]
theorem setRow_at {w : World} {g : Nat} {c c0 : Array Value} {t : TypeId} (h : w.heap[g]? = some (.cells c0 t (0, 0))) : (w.setRow g c).heap[g]? = some (.cells c t (0, 0)) := by
  simp only [World.setRow, Array.getElem?_modify, if_true]
  rw [h]
  rfl
theorem heap_kept {B : Nat} {w w' : World} (h : Below B w w') {g : Nat} (hg : g < B) {o : Obj} (he : w.heap[g]? = some o) : w'.heap[g]? = some o := (h.block g hg).trans he

/-- A block of two cells, stored cell by cell. -/
theorem two_cells {w : World} {g : Nat} {a b : Value} {t : TypeId} (h : w.heap[g]? = some (.cells #[a, b] t (0, 0))) : w.cell? ⟨g, 0, none⟩ = some a ∧ w.cell? ⟨g, 1, none⟩ = some b ∧ w.frozen? ⟨g, 0, none⟩ = false ∧ w.frozen? ⟨g, 1, none⟩ = false := by
  refine ⟨by rw [cell_of_row w g 0 _ t (0, 0) h]; rfl, by rw [cell_of_row w g 1 _ t (0, 0) h]; rfl, ?_, ?_⟩
  · unfold World.frozen?; rw [h]; rfl
  · unfold World.frozen?; rw [h]; rfl
theorem set_two {w : World} {g : Nat} {a b : Value} {t : TypeId} (h : w.heap[g]? = some (.cells #[a, b] t (0, 0))) (x y : Value) : ((w.setCell ⟨g, 0, none⟩ x).setCell ⟨g, 1, none⟩ y).heap[g]? = some (.cells #[x, y] t (0, 0)) := by
  simp [World.setCell, Array.getElem?_modify, h]

theorem set_fst {w : World} {g : Nat} {a b : Value} {t : TypeId} (h : w.heap[g]? = some (.cells #[a, b] t (0, 0))) (x : Value) : (w.setCell ⟨g, 0, none⟩ x).heap[g]? = some (.cells #[x, b] t (0, 0)) := by
  simp [World.setCell, Array.getElem?_modify, h]
theorem set_snd {w : World} {g : Nat} {a b : Value} {t : TypeId} (h : w.heap[g]? = some (.cells #[a, b] t (0, 0))) (x : Value) : (w.setCell ⟨g, 1, none⟩ x).heap[g]? = some (.cells #[a, x] t (0, 0)) := by
  simp [World.setCell, Array.getElem?_modify, h]

end Go.Proofs.YtdgedclpaplgoaaDoor
namespace Go.Proofs.YtdgedclpaplgoaaDoor.lawMark
open Go Go.RowKit
set_option linter.unusedVariables false

/-- The digits of m in front of acc (f: fuel). -/
def dg : Nat → Nat → List UInt8 → List UInt8
  | 0, _, acc => acc
  | f + 1, m, acc => if m = 0 then acc else dg f (m / 10) (UInt8.ofNat (48 + m % 10) :: acc)
theorem dg_zero (f : Nat) (acc : List UInt8) : dg f 0 acc = acc := by cases f <;> simp [dg]
/-- The law's mark of number m. -/
def mt (m : Int) : ByteArray := if m ≤ 0 then ⟨#[109, 48]⟩ else ⟨(109 :: dg m.toNat m.toNat []).toArray⟩
theorem mt_lo {m : Int} (h : m ≤ 0) : mt m = ⟨#[109, 48]⟩ := by unfold mt; rw [if_pos h]
theorem mt_hi {m : Int} (h : ¬ m ≤ 0) : mt m = ⟨(109 :: dg m.toNat m.toNat []).toArray⟩ := by unfold mt; rw [if_neg h]

theorem dg_length : ∀ (f m : Nat) (acc : List UInt8), (dg f m acc).length ≤ f + acc.length
  | 0, m, acc => by simp [dg]
  | f + 1, m, acc => by
    rw [dg]
    split
    · omega
    · have h := dg_length f (m / 10) (UInt8.ofNat (48 + m % 10) :: acc)
      rw [List.length_cons] at h
      omega
theorem mt_size (m : Int) (h : m ≤ 4611686018427387904) : (mt m).size ≤ maxLen := by
  unfold mt maxLen
  split
  · decide
  · show (109 :: dg m.toNat m.toNat []).toArray.size ≤ _
    rw [List.size_toArray, List.length_cons]
    have := dg_length m.toNat m.toNat []
    simp at this
    omega
theorem wf_of {k : Int} (h0 : -9223372036854775808 ≤ k) (h1 : k ≤ 9223372036854775807) : (Lit.int .i64 k).wf = true := by
  have e1 : IntKind.i64.min = -9223372036854775808 := rfl
  have e2 : IntKind.i64.max = 9223372036854775807 := rfl
  simp [Lit.wf, e1, e2]
  omega
end Go.Proofs.YtdgedclpaplgoaaDoor.lawMark
namespace Go.Proofs.YtdgedclpaplgoaaDoor.lab
open Go Go.RowKit
set_option linter.unusedVariables false

/-- A letter or a digit. -/
def isL (b : Int) : Bool := (decide (97 ≤ b) && decide (b ≤ 122)) || (decide (65 ≤ b) && decide (b ≤ 90)) || (decide (48 ≤ b) && decide (b ≤ 57))
/-- A byte of a name. -/
def nameB (b : Int) : Bool := (isL b && !(decide (65 ≤ b) && decide (b ≤ 90))) || b == 45
structure NameP (s : ByteArray) : Prop where
  lo : 1 ≤ s.size
  hi : s.size ≤ 20
  fst : at_ s 0 ≠ 45
  lst : at_ s (s.size - 1) ≠ 45
  all : ∀ i, i < s.size → nameB (at_ s i) = true
/-- A byte of a word that has the first k bytes of o within. -/
def acc (o : ByteArray) (b : Int) (k : Nat) : Bool := isL b || (List.range k).any (fun j => b == at_ o j)
theorem acc_zero (o : ByteArray) (b : Int) : acc o b 0 = isL b := by simp [acc]
theorem acc_succ (o : ByteArray) (b : Int) (k : Nat) : acc o b (k + 1) = (acc o b k || (b == at_ o k)) := by
  unfold acc
  rw [List.range_succ, List.any_append, ← Bool.or_assoc]
  simp
def wordB (o : ByteArray) (b : Int) : Bool := acc o b o.size
structure WordP (o s : ByteArray) : Prop where
  lo : 1 ≤ s.size
  fst : isL (at_ s 0) = true
  lst : isL (at_ s (s.size - 1)) = true
  all : ∀ i, i < s.size → wordB o (at_ s i) = true
def keyO : ByteArray := ⟨#[45, 95, 46, 47]⟩
def valO : ByteArray := ⟨#[45, 95, 46]⟩
def KeyP (s : ByteArray) : Prop := s.size ≤ 30 ∧ WordP keyO s
def ValP (s : ByteArray) : Prop := s.size = 0 ∨ (s.size ≤ 20 ∧ WordP valO s)
open Classical in
noncomputable def yes (p : Prop) : Bool := if p then true else false
theorem yes_t {p : Prop} (h : p) : yes p = true := by unfold yes; rw [if_pos h]
theorem yes_f {p : Prop} (h : ¬ p) : yes p = false := by unfold yes; rw [if_neg h]
theorem yes_iff {p : Prop} : yes p = true ↔ p := by
  by_cases h : p
  · rw [yes_t h]; simp [h]
  · rw [yes_f h]; simp [h]
end Go.Proofs.YtdgedclpaplgoaaDoor.lab
namespace Go.Proofs.YtdgedclpaplgoaaDoor.lab
open Go.ChangeShapes Go.WideShapes Go.ChangeAt Go.RowKit
set_option linter.unusedVariables false

theorem drew_of {w wr : World} (h : ∃ n, wr = w.drewN n) (m : Nat) : ∃ n, wr.drewN m = w.drewN n := by
  obtain ⟨n, rfl⟩ := h
  exact ⟨n + m, by simp⟩
end Go.Proofs.YtdgedclpaplgoaaDoor.lab
namespace Go.Proofs.YtdgedclpaplgoaaDoor.lab
open Go.ChangeShapes Go.WideShapes Go.ChangeAt Go.RowKit
set_option linter.unusedVariables false

theorem spec_letter (x : Int) (w : World) : Calls Tryd.prog 148 #[.int .u8 x] w fun e w' => e = .returned (.bool (isL x)) ∧ w = w' := by
  by_cases a1 : 97 ≤ x
  · have b1 : 65 ≤ x := by omega
    have c1 : 48 ≤ x := by omega
    by_cases a2 : x ≤ 122
    · rw [show isL x = true by simp [isL, a1, a2]]
      go_enter Tryd.func148, Tryd.ntmps148
      go_wp2_with fail
      go_ret
      exact ⟨rfl, rfl⟩
    · have b2 : ¬ x ≤ 90 := by omega
      have c2 : ¬ x ≤ 57 := by omega
      rw [show isL x = false by simp [isL, a2, b2, c2]]
      go_enter Tryd.func148, Tryd.ntmps148
      go_wp2_with fail
      go_ret
      exact ⟨rfl, rfl⟩
  by_cases b1 : 65 ≤ x
  · have c1 : 48 ≤ x := by omega
    by_cases b2 : x ≤ 90
    · rw [show isL x = true by simp [isL, b1, b2]]
      go_enter Tryd.func148, Tryd.ntmps148
      go_wp2_with fail
      go_ret
      exact ⟨rfl, rfl⟩
    · have c2 : ¬ x ≤ 57 := by omega
      rw [show isL x = false by simp [isL, a1, b2, c2]]
      go_enter Tryd.func148, Tryd.ntmps148
      go_wp2_with fail
      go_ret
      exact ⟨rfl, rfl⟩
  by_cases c1 : 48 ≤ x
  · by_cases c2 : x ≤ 57
    · rw [show isL x = true by simp [isL, c1, c2]]
      go_enter Tryd.func148, Tryd.ntmps148
      go_wp2_with fail
      go_ret
      exact ⟨rfl, rfl⟩
    · rw [show isL x = false by simp [isL, a1, b1, c2]]
      go_enter Tryd.func148, Tryd.ntmps148
      go_wp2_with fail
      go_ret
      exact ⟨rfl, rfl⟩
  · rw [show isL x = false by simp [isL, a1, b1, c1]]
    go_enter Tryd.func148, Tryd.ntmps148
    go_wp2_with fail
    go_ret
    exact ⟨rfl, rfl⟩

set_option maxRecDepth 100000 in
set_option maxHeartbeats 4000000 in
theorem spec_word (s o : ByteArray) (w : World) (hs : s.size ≤ 1048576) (ho : o.size ≤ 16) :
    Calls Tryd.prog 118 #[.string s, .string o] w fun e w' => e = .returned (.bool (yes (WordP o s))) ∧ ∃ n, w' = w.drewN n := by
  obtain ⟨R, hR⟩ : ∃ R, yes (WordP o s) = R := ⟨_, rfl⟩
  rw [hR]
  have HR := Lib.hid hR
  clear hR
  have HL := Lib.hid (fun x w => spec_letter x w)
  by_cases h0 : s.size = 0
  · have e0 : ((s.size : Int) == 0) = true := by rw [h0]; rfl
    have Hf : Hid (R = false) := by unfold Hid; rw [← HR.out]; exact yes_f fun h => by have := h.lo; omega
    clear h0 HL
    go_enter Tryd.func118, Tryd.ntmps118
    go_wp2_with fail
    go_ret
    exact ⟨by rw [Hf.out]; rfl, 0, rfl⟩
  have e0 : ((s.size : Int) == 0) = false := by rw [beq_eq_false_iff_ne]; omega
  have hp0 : 0 < s.size := by omega
  have hat0 := at_eq s 0 hp0
  obtain ⟨m, hm⟩ : ∃ m : Nat, m = s.size - 1 := ⟨_, rfl⟩
  have hml : m < s.size := by omega
  have hmi : (s.size : Int) - 1 = (m : Int) := by omega
  have hatm := at_eq s m hml
  have Hno : Hid (¬ WordP o s → R = false) := fun h => by rw [← HR.out]; exact yes_f h
  have Hyes : Hid (WordP o s → R = true) := fun h => by rw [← HR.out]; exact yes_t h
  have H0 := Lib.hid (HL.out (at_ s 0))
  have Hm := Lib.hid (HL.out (at_ s m))
  by_cases f0 : isL (at_ s 0) = true
  case neg =>
    have Hf := Lib.hid (Hno.out fun h => f0 h.fst)
    rw [Bool.not_eq_true] at f0
    rw [f0] at H0
    generalize at_ s 0 = y0 at hat0 H0
    clear f0 Hno Hyes hm h0
    go_enter Tryd.func118, Tryd.ntmps118
    go_wp2_with fail
    refine (H0.out _).mono ?_
    rintro e w1 ⟨rfl, rfl⟩
    go_wp2_with fail
    go_ret
    exact ⟨by rw [Hf.out]; rfl, 0, rfl⟩
  by_cases fm : isL (at_ s m) = true
  case neg =>
    have Hf := Lib.hid (Hno.out fun h => fm (by rw [hm]; exact h.lst))
    rw [Bool.not_eq_true] at fm
    rw [fm] at Hm
    rw [f0] at H0
    generalize at_ s 0 = y0 at hat0 H0
    generalize at_ s m = ym at hatm Hm
    clear f0 fm Hno Hyes hm h0
    go_enter Tryd.func118, Tryd.ntmps118
    go_wp2_with fail
    refine (H0.out _).mono ?_
    rintro e w1 ⟨rfl, rfl⟩
    go_wp2_with fail
    refine (Hm.out _).mono ?_
    rintro e w1 ⟨rfl, rfl⟩
    go_wp2_with fail
    go_ret
    exact ⟨by rw [Hf.out]; rfl, 0, rfl⟩
  have Hmk := Lib.hid (fun h3 => Hyes.out ⟨by omega, f0, by rw [← hm]; exact fm, h3⟩)
  rw [f0] at H0
  rw [fm] at Hm
  generalize at_ s 0 = y0 at hat0 H0
  generalize at_ s m = ym at hatm Hm
  clear f0 fm hm h0 Hyes
  go_enter Tryd.func118, Tryd.ntmps118
  go_wp2_with fail
  refine (H0.out _).mono ?_
  rintro e w1 ⟨rfl, rfl⟩
  go_wp2_with fail
  refine (Hm.out _).mono ?_
  rintro e w1 ⟨rfl, rfl⟩
  clear H0 Hm hat0 hatm hmi hml e0
  go_wp2_with fail
  go_loopw [5] (fun i wr => ∃ k : Nat, k ≤ s.size ∧ i = .int .i64 k ∧ Hid (∀ j, j < k → wordB o (at_ s j) = true) ∧ ∃ n, wr = w.drewN n) (fun i _ => s.size - (intOf i).toNat)
  case atStart => exact ⟨0, Nat.zero_le _, rfl, fun j hj => by omega, 0, rfl⟩
  case round =>
    obtain ⟨k, hk, rfl, hall, n0, rfl⟩ := hrel
    by_cases hlt : k < s.size
    · have hatk := at_eq s k hlt
      have HLk := Lib.hid (HL.out (at_ s k))
      have Hn1 : Hid (wordB o (at_ s k) = false → R = false) := fun h => Hno.out fun h2 => by rw [h2.all k hlt] at h; cases h
      have Hn2 : Hid (wordB o (at_ s k) = true → ∀ j, j < k + 1 → wordB o (at_ s j) = true) := fun h j hj => by
        by_cases e : j = k
        · rw [e]; exact h
        · exact hall.out j (by omega)
      clear hall
      generalize at_ s k = x at hatk HLk Hn1 Hn2
      go_wp2_with fail
      refine (HLk.out _).mono ?_
      rintro e w2 ⟨rfl, rfl⟩
      clear HLk
      generalize hb0 : isL x = b0
      go_wp2_with fail
      go_loopw [6, 7] (fun b j wr => ∃ q : Nat, q ≤ o.size ∧ j = .int .i64 q ∧ b = .bool (acc o x q) ∧ ∃ n, wr = w.drewN n) (fun _ j _ => o.size - (intOf j).toNat)
      case atStart => exact ⟨0, Nat.zero_le _, rfl, by rw [acc_zero, hb0], _, rfl⟩
      case round =>
        clear hb0
        obtain ⟨q, hq, rfl, rfl, n1, rfl⟩ := hrel
        by_cases hlq : q < o.size
        · have hato := at_eq o q hlq
          have hsucc := acc_succ o x q
          cases ha : acc o x q with
          | true =>
            have Hs : Hid (acc o x (q + 1) = true) := by unfold Hid; rw [hsucc, ha]; rfl
            clear hsucc ha hato
            go_wp2_with fail
            go_quiet (fail)
            go_wp2_with fail
            go_roundw
            case rel => exact ⟨q + 1, by omega, by go_num, by rw [Hs.out], _, rfl⟩
            case measure => simp [intOf]; omega
          | false =>
            have hs1 : acc o x (q + 1) = (x == at_ o q) := by rw [hsucc, ha]; rfl
            generalize at_ o q = z at hato hs1
            cases hz : (x == z) with
            | true =>
              have Hs : Hid (acc o x (q + 1) = true) := by unfold Hid; rw [hs1, hz]
              clear hsucc ha hs1
              go_wp2_with fail
              go_quiet (fail)
              go_wp2_with fail
              go_roundw
              case rel => exact ⟨q + 1, by omega, by go_num, by rw [Hs.out], _, rfl⟩
              case measure => simp [intOf]; omega
            | false =>
              have Hs : Hid (acc o x (q + 1) = false) := by unfold Hid; rw [hs1, hz]
              clear hsucc ha hs1
              go_wp2_with fail
              go_quiet (fail)
              go_wp2_with fail
              go_roundw
              case rel => exact ⟨q + 1, by omega, by go_num, by rw [Hs.out], _, rfl⟩
              case measure => simp [intOf]; omega
        · obtain rfl : q = o.size := by omega
          cases ha : acc o x o.size with
          | true =>
            have Hall := Lib.hid (Hn2.out ha)
            clear ha Hn1 Hn2
            go_wp2_with fail
            go_roundw
            case rel => exact ⟨k + 1, by omega, by go_num, Hall.out, _, rfl⟩
            case measure => simp [intOf]; omega
          | false =>
            have Hf := Lib.hid (Hn1.out ha)
            clear ha Hn1 Hn2
            go_wp2_with fail
            go_ret
            exact ⟨by rw [Hf.out]; rfl, _, rfl⟩
    · obtain rfl : k = s.size := by omega
      have Hf := Lib.hid (Hmk.out hall.out)
      clear hall
      go_wp2_with fail
      go_ret
      exact ⟨by rw [Hf.out]; rfl, _, rfl⟩

theorem spec_key (s : ByteArray) (w : World) (hs : s.size ≤ 1048576) :
    Calls Tryd.prog 80 #[.string s] w fun e w' => e = .returned (.bool (yes (KeyP s))) ∧ ∃ n, w' = w.drewN n := by
  by_cases h : s.size ≤ 30
  · have e : yes (KeyP s) = yes (WordP keyO s) := by
      by_cases h2 : WordP keyO s
      · rw [yes_t h2, yes_t ⟨h, h2⟩]
      · rw [yes_f h2, yes_f fun h3 => h2 h3.2]
    rw [e]
    have HW := Lib.hid (spec_word s keyO w hs (by decide))
    generalize yes (WordP keyO s) = R at HW
    unfold keyO at HW
    clear e hs
    go_enter Tryd.func80, Tryd.ntmps80
    go_wp2_with fail
    refine HW.out.mono ?_
    rintro e w1 ⟨rfl, n1, rfl⟩
    clear HW
    go_wp2_with fail
    go_ret
    exact ⟨rfl, _, rfl⟩
  · rw [yes_f (fun h2 : KeyP s => h h2.1)]
    clear hs
    go_enter Tryd.func80, Tryd.ntmps80
    go_wp2_with fail
    go_ret
    exact ⟨rfl, 0, rfl⟩
theorem spec_val (s : ByteArray) (w : World) (hs : s.size ≤ 1048576) :
    Calls Tryd.prog 81 #[.string s] w fun e w' => e = .returned (.bool (yes (ValP s))) ∧ ∃ n, w' = w.drewN n := by
  by_cases h0 : s.size = 0
  · rw [yes_t (show ValP s from .inl h0)]
    have e0 := empty_yes h0
    have e1 : (s.toList == []) = true := by rw [show s.toList = [] from List.isEmpty_iff.1 e0]; rfl
    clear hs h0
    go_enter Tryd.func81, Tryd.ntmps81
    go_wp2_with fail
    go_ret
    exact ⟨rfl, 0, rfl⟩
  have e0 := empty_no (show 0 < s.size by omega)
  have e1 : (s.toList == []) = false := by
    cases hl : s.toList with
    | nil => rw [hl] at e0; cases e0
    | cons a r => rfl
  by_cases h : s.size ≤ 20
  · have e : yes (ValP s) = yes (WordP valO s) := by
      by_cases h2 : WordP valO s
      · rw [yes_t h2, yes_t (show ValP s from .inr ⟨h, h2⟩)]
      · rw [yes_f h2, yes_f fun h3 : ValP s => h3.elim h0 fun h4 => h2 h4.2]
    rw [e]
    have HW := Lib.hid (spec_word s valO w hs (by decide))
    generalize yes (WordP valO s) = R at HW
    unfold valO at HW
    clear e hs h0
    go_enter Tryd.func81, Tryd.ntmps81
    go_wp2_with fail
    refine HW.out.mono ?_
    rintro e w1 ⟨rfl, n1, rfl⟩
    clear HW
    go_wp2_with fail
    go_ret
    exact ⟨rfl, _, rfl⟩
  · rw [yes_f (fun h2 : ValP s => h2.elim h0 fun h4 => h h4.1)]
    clear hs h0
    go_enter Tryd.func81, Tryd.ntmps81
    go_wp2_with fail
    go_ret
    exact ⟨rfl, 0, rfl⟩
end Go.Proofs.YtdgedclpaplgoaaDoor.lab
namespace Go.Proofs.YtdgedclpaplgoaaDoor
open Go Go.RowKit
set_option linter.unusedVariables false

/-- A world that keeps all that was there. -/
structure BelowBy (w : World) where
  v : World
  h : Below w.heap.size w v
def BelowBy.start (w : World) : BelowBy w := ⟨w.drewN 1, below_drewN (Below.refl _ _) 1⟩
instance (w : World) : Inhabited (BelowBy w) := ⟨BelowBy.start w⟩
theorem drew_below' {P : Program} {f : FuncId} {args : Array Value} {w : World} {E : Ending} (h : Calls P f args w fun e w' => e = E ∧ ∃ n, w' = w.drewN n) : Calls P f args w fun e w' => e = E ∧ Below w.heap.size w w' :=
  h.mono fun _ _ ⟨he, n, hn⟩ => ⟨he, by rw [hn]; exact below_drewN (Below.refl _ _) n⟩
theorem wp_region_quiet_below {P : Program} {id : Nat} {Q : Exit → Act → World → Prop} {a : Act} {w : World} {l : List Oper} (hm : P.follows .mixedOrders = true) (hB : Region.lexB .any l.toArray = true)
    (h : wpQuiet P l.toArray (fun w' => ∃ p : BelowBy w, w' = p.v) (fun a' => ∀ w', (∃ p : BelowBy w, w' = p.v) → Q .normal a' w') l a) : (Code.region id l.toArray true).wp P Q a w :=
  wp_region_quiet (C := fun w' => ∃ p : BelowBy w, w' = p.v) hm hB ⟨BelowBy.start w, rfl⟩ (by simpa using h)
theorem BelowBy.cell {w : World} {a : Addr} {v : Value} (hb : a.block < w.heap.size) (h : w.cell? a = some v) (p : BelowBy w) : p.v.cell? a = some v :=
  (World.cell?_of_block (p.h.block _ hb)).trans h
/-- A callee's contract, met in a world of the class. -/
theorem Calls.below_of {P : Program} {f : FuncId} {args : Array Value} {w : World} {p : BelowBy w} {v : Value}
    (h : Calls P f args p.v fun e w' => e = .returned v ∧ Below p.v.heap.size p.v w') : Calls P f args p.v fun e w'' => e = .returned v ∧ ∃ q : BelowBy w, w'' = q.v :=
  h.mono fun _ w' ⟨he, hw⟩ => ⟨he, ⟨w', p.h.trans (hw.mono p.h.size)⟩, rfl⟩
end Go.Proofs.YtdgedclpaplgoaaDoor
namespace Go.Proofs.YtdgedclpaplgoaaDoor
open Go Go.RowKit
set_option linter.unusedVariables false

def Gr (w w' : World) : Prop := ∃ q os, w' = Sort.grow (w.drewN q) os
theorem Gr.refl (w : World) : Gr w w := ⟨0, #[], by rw [Sort.grow_empty]; rfl⟩
theorem Gr.trans {a b c : World} (h : Gr a b) (k : Gr b c) : Gr a c := by
  obtain ⟨q, os, rfl⟩ := h
  obtain ⟨q', os', rfl⟩ := k
  refine ⟨q + q', os ++ os', ?_⟩
  show Sort.grow (Sort.grow ((a.drewN q).drewN q') os) os' = _
  rw [Sort.grow_grow, World.drewN_drewN]
theorem Gr.alloc {a w : World} (h : Gr a w) (o : Obj) : Gr a (w.alloc o) := h.trans ⟨0, #[o], by rw [Sort.alloc_eq_grow]; rfl⟩
theorem Gr.drewN {a w : World} (h : Gr a w) (n : Nat) : Gr a (w.drewN n) := h.trans ⟨n, #[], by rw [Sort.grow_empty]⟩
theorem Gr.drew {a w : World} (h : Gr a w) : Gr a w.drew := h.trans ⟨1, #[], by rw [Sort.grow_empty]; rfl⟩
theorem Gr.below {w w' : World} (h : Gr w w') : Below w.heap.size w w' := by
  obtain ⟨q, os, rfl⟩ := h
  refine ⟨rfl, rfl, rfl, ?_, fun k hk => ?_⟩
  · show w.heap.size ≤ (w.heap ++ os).size
    simp
  · show (w.heap ++ os)[k]? = w.heap[k]?
    rw [Array.getElem?_append_left hk]
structure GrBy (w : World) where
  v : World
  h : Gr w v
def GrBy.start (w : World) : GrBy w := ⟨w.drewN 1, (Gr.refl w).drewN 1⟩
instance (w : World) : Inhabited (GrBy w) := ⟨GrBy.start w⟩
theorem wp_region_quiet_gr {P : Program} {id : Nat} {Q : Exit → Act → World → Prop} {a : Act} {w : World} {l : List Oper} (hm : P.follows .mixedOrders = true) (hB : Region.lexB .any l.toArray = true)
    (h : wpQuiet P l.toArray (fun w' => ∃ p : GrBy w, w' = p.v) (fun a' => ∀ w', (∃ p : GrBy w, w' = p.v) → Q .normal a' w') l a) : (Code.region id l.toArray true).wp P Q a w :=
  wp_region_quiet (C := fun w' => ∃ p : GrBy w, w' = p.v) hm hB ⟨GrBy.start w, rfl⟩ (by simpa using h)
theorem GrBy.cell {w : World} {a : Addr} {v : Value} (hb : a.block < w.heap.size) (h : w.cell? a = some v) (p : GrBy w) : p.v.cell? a = some v :=
  (World.cell?_of_block (p.h.below.block _ hb)).trans h
/-- A callee's contract, met in a world of the class. -/
theorem Calls.gr_of {P : Program} {f : FuncId} {args : Array Value} {w : World} {p : GrBy w} {v : Value}
    (h : Calls P f args p.v fun e w' => e = .returned v ∧ Gr p.v w') : Calls P f args p.v fun e w'' => e = .returned v ∧ ∃ q : GrBy w, w'' = q.v :=
  h.mono fun _ w' ⟨he, hw⟩ => ⟨he, ⟨w', p.h.trans hw⟩, rfl⟩
/-- A contract in the finer form gives the coarser one. -/
theorem gr_below {P : Program} {f : FuncId} {args : Array Value} {w : World} {E : Ending} (h : Calls P f args w fun e w' => e = E ∧ Gr w w') : Calls P f args w fun e w' => e = E ∧ Below w.heap.size w w' :=
  h.mono fun _ _ ⟨he, hg⟩ => ⟨he, hg.below⟩
theorem drew_gr {P : Program} {f : FuncId} {args : Array Value} {w : World} {E : Ending} (h : Calls P f args w fun e w' => e = E ∧ ∃ n, w' = w.drewN n) : Calls P f args w fun e w' => e = E ∧ Gr w w' :=
  h.mono fun _ _ ⟨he, n, hn⟩ => ⟨he, by rw [hn]; exact (Gr.refl w).drewN n⟩
end Go.Proofs.YtdgedclpaplgoaaDoor
namespace Go.Proofs.YtdgedclpaplgoaaDoor.cut
open Go Go.RowKit
set_option linter.unusedVariables false

/-- Behind k bytes: where the open part begins, and the parts so far. The end of the text counts as the byte. -/
def cs (s : ByteArray) (c : Int) : Nat → Nat × List ByteArray
  | 0 => (0, [])
  | k + 1 => if k = s.size ∨ at_ s k = c then (k + 1, (cs s c k).2 ++ [s.extract (cs s c k).1 k]) else cs s c k
theorem cs_bd (s : ByteArray) (c : Int) (k : Nat) : (cs s c k).1 ≤ k ∧ (cs s c k).2.length ≤ k := by
  induction k with
  | zero => simp [cs]
  | succ k ih =>
    simp only [cs]
    split
    · refine ⟨Nat.le_refl _, ?_⟩
      simp; omega
    · omega
theorem cs_no {s : ByteArray} {c : Int} {k b : Nat} {l : List ByteArray} (h : cs s c k = (b, l)) (h1 : k < s.size) (h2 : at_ s k ≠ c) : cs s c (k + 1) = (b, l) := by
  simp only [cs]; rw [if_neg (by omega)]; exact h
theorem cs_add {s : ByteArray} {c : Int} {k b : Nat} {l : List ByteArray} (h : cs s c k = (b, l)) (h1 : k = s.size ∨ at_ s k = c) : cs s c (k + 1) = (k + 1, l ++ [s.extract b k]) := by
  simp only [cs]; rw [if_pos h1, h]
def cutF (s : ByteArray) (c : Int) : List ByteArray := (cs s c (s.size + 1)).2
theorem cut_le (s : ByteArray) (c : Int) : (cutF s c).length ≤ s.size + 1 := (cs_bd s c _).2
/-- No part is longer than the text. -/
theorem cs_sizes (s : ByteArray) (c : Int) (k : Nat) : ∀ x ∈ (cs s c k).2, x.size ≤ s.size := by
  induction k with
  | zero => intro x hx; simp [cs] at hx
  | succ k ih =>
    intro x hx
    simp only [cs] at hx
    split at hx
    · rcases List.mem_append.1 hx with h | h
      · exact ih x h
      · rw [List.mem_singleton] at h
        subst h
        rw [ByteArray.size_extract]
        omega
    · exact ih x hx
theorem cut_sizes (s : ByteArray) (c : Int) : ∀ x ∈ cutF s c, x.size ≤ s.size := cs_sizes s c _
/-- What a function that makes a list of strings hands back. -/
def OutS (e0 : TypeId) (w : World) (l : List ByteArray) (e : Ending) (w' : World) : Prop := ∃ v, e = .returned v ∧ w'.ownsRow w.heap.size e0 1 v l.length (scells l) ∧ Below w.heap.size w w'
end Go.Proofs.YtdgedclpaplgoaaDoor.cut
