/- Merged: Base MarkM CutM CutB WdM DedupM DrewM QuietB. -/
import Derived.WalkKit
import Derived.Below
import Derived.Laws.BytesArg
import Derived.Deep.RegionLaw
import Derived.Deep.QuietTactic
import Derived.BigQuiet
import Derived.RegionTactic
import Derived.BigRegion
import Derived.ShutString
import Derived.Lib.Hide
import Derived.Test.YtdgedclpaplgoaaGreatDoorRows
import Derived.ProofKit
import Derived.OpenShut
namespace Go.Proofs.YtdgedclpaplgoaaGreatDoor
open Go Go.RowKit

/-- A slice of integers that came in: it is nil; or it leads to a row of cap cells that hold the numbers zs, each fitting its kind. -/
def IsRow (k : IntKind) (w : World) (a : Option Addr) (len cap : Nat) (zs : List Int) : Prop :=
  (a = none ∧ len = 0 ∧ cap = 0 ∧ zs = []) ∨
  ∃ x, a = some x ∧ len ≤ cap ∧ cap ≤ maxLen ∧ zs.length = cap ∧ (∀ i, i < zs.length → w.cell? (x.add i) = some (.int k (zs.getD i 0))) ∧ ∀ n ∈ zs, (Lit.int k n).wf = true
theorem IsRow.at_ {k : IntKind} {w : World} {a : Option Addr} {len cap : Nat} {zs : List Int} (h : IsRow k w a len cap zs) (hl : 0 < len) :
    ∃ g o, a = some ⟨g, o, none⟩ ∧ g < w.heap.size ∧ ∀ j, j < len → (Lit.int k (zs.getD j 0)).wf = true ∧ w.cell? ⟨g, o + j, none⟩ = some (.int k (zs.getD j 0)) := by
  rcases h with ⟨_, rfl, _⟩ | ⟨x, rfl, h1, h2, h3, h4, h5⟩
  · omega
  · obtain ⟨g, o, sp⟩ := x
    have hc := h4 0 (by omega)
    have hsp : sp = none := by simpa [Addr.add] using World.cell?_spot hc
    subst hsp
    refine ⟨g, o, rfl, ?_, fun j hj => ⟨?_, ?_⟩⟩
    · have := World.block_lt_of_cell? w _ hc
      simpa [Addr.add] using this
    · have hj2 : j < zs.length := by omega
      rw [List.getD_eq_getElem?_getD, List.getElem?_eq_getElem hj2]
      exact h5 _ (List.getElem_mem hj2)
    · have := h4 j (by omega)
      rw [Addr.add_lit] at this
      exact this
theorem IsRow.le {k : IntKind} {w : World} {a : Option Addr} {len cap : Nat} {zs : List Int} (h : IsRow k w a len cap zs) : len ≤ maxLen := by
  rcases h with ⟨_, rfl, _⟩ | ⟨x, rfl, h1, h2, _⟩
  · exact Nat.zero_le _
  · omega

theorem ret_int {k : IntKind} {a b : Int} (h : a = b) : Ending.returned (.int k a) = .returned (.int k b) := by rw [h]
theorem ret_str {a b : ByteArray} (h : a = b) : Ending.returned (.string a) = .returned (.string b) := by rw [h]

theorem take_snoc (s : ByteArray) (k : Nat) (h : k < s.size) : s.data.toList.take (k + 1) = s.data.toList.take k ++ [s[k]] := by
  rw [List.take_succ_eq_append_getElem (by simpa using h)]; rfl

theorem bytes_append (l r : List UInt8) : (⟨l.toArray⟩ : ByteArray) ++ ⟨r.toArray⟩ = ⟨(l ++ r).toArray⟩ := by
  apply ByteArray.ext
  simp
theorem bytes_cons (a : UInt8) (r : List UInt8) : (⟨#[a]⟩ : ByteArray) ++ ⟨r.toArray⟩ = ⟨(a :: r).toArray⟩ := bytes_append [a] r

theorem empty_no {f : ByteArray} (h : 0 < f.size) : f.toList.isEmpty = false := by
  rw [ByteArray.toList_eq]
  cases hl : f.data.toList with
  | nil => have : f.data.toList.length = f.size := by simp
           rw [hl] at this; simp at this; omega
  | cons a r => rfl
theorem empty_yes {f : ByteArray} (h : f.size = 0) : f.toList.isEmpty = true := by
  rw [ByteArray.toList_eq]
  cases hl : f.data.toList with
  | nil => rfl
  | cons a r => have : f.data.toList.length = f.size := by simp
                rw [hl] at this; simp at this; omega

/-- Byte i of s as a number; 0 behind its end. -/
def at_ (s : ByteArray) (i : Nat) : Int := ((s.data.toList.getD i 0).toNat : Int)
theorem at_eq (s : ByteArray) (i : Nat) (h : i < s.size) : (s[i].toNat : Int) = at_ s i := by
  unfold at_
  have h2 : i < s.data.toList.length := by simpa using h
  rw [List.getD_eq_getElem?_getD, List.getElem?_eq_getElem h2]
  rfl
theorem at_bd (s : ByteArray) (i : Nat) : 0 ≤ at_ s i ∧ at_ s i < 256 := by
  unfold at_
  have := (s.data.toList.getD i 0).toNat_lt
  omega

/-- The cells of a list of strings. -/
def scells (l : List ByteArray) : List Value := l.map Value.string
theorem scells_length (l : List ByteArray) : (scells l).length = l.length := by simp [scells]
theorem scells_append (l r : List ByteArray) : scells (l ++ r) = scells l ++ scells r := by simp [scells]
theorem scells_get (l : List ByteArray) (i : Nat) (h : i < l.length) : (scells l)[i]? = some (.string l[i]) := by simp [scells, h]

/-- The cells of a list of ints. -/
def icells (l : List Int) : List Value := l.map (Value.int .i64)
theorem icells_length (l : List Int) : (icells l).length = l.length := by simp [icells]
theorem icells_append (l r : List Int) : icells (l ++ r) = icells l ++ icells r := by simp [icells]
theorem icells_get (l : List Int) (i : Nat) (h : i < l.length) : (icells l)[i]? = some (.int .i64 (l.getD i 0)) := by simp [icells, List.getD, h]

/-- The cells of a list of bytes. -/
def bcells (l : List UInt8) : List Value := l.map fun b => .int .u8 b.toNat
theorem bcells_length (l : List UInt8) : (bcells l).length = l.length := by simp [bcells]
theorem bcells_append (l r : List UInt8) : bcells (l ++ r) = bcells l ++ bcells r := by simp [bcells]
theorem bcells_one (l : List UInt8) : ∀ u ∈ bcells l, u.oneCell' = true := by
  intro u hu
  obtain ⟨_, _, rfl⟩ := List.mem_map.1 hu
  rfl

/-- v is a slice of bytes of the call's own (block number from B on), nil or not, that reads as l. -/
def OwnB (w : World) (B : Nat) (e : TypeId) (v : Value) (l : List UInt8) : Prop := w.ownsRow B e 1 v l.length (bcells l)

theorem OwnB.nil (w : World) (B : Nat) (e : TypeId) : OwnB w B e (.slice none 0 0) [] := World.ownsRow_nil _ _ _ _

/-- append onto a slice of the call's own as one step of a region that draws its order. -/
theorem step_append_own {P : Program} {ops : Array Oper} {o : Oper} {a : Act} {w : World} {K : Act → World → Prop} {Q : Exit → Act → World → Prop} {E : Prop}
    (hg : o.guard = none) (s x : Operand) (t : TypeId) (hop : o.op = Op.call { callee := Callee.builtin Builtin.append, args := #[s, x], argTypes := #[t, t] })
    (B : Nat) (e : TypeId) (i : TypeInfo) (z : Value) (size bytes : Nat) (h1 : P.underlying t = some (.slice e)) (h2 : P.info? e = some i) (h3 : i.zero = some z) (h4 : i.size = size) (h5 : i.bytes = bytes) (h6 : z.cells.size = size) (h7 : 0 < size)
    (v : Value) (n : Nat) (xs : List Value) (hs : a.eval s = v) (hown : w.ownsRow B e size v n xs)
    (ad : Addr) (m c : Nat) (news : List Value) (hx : a.eval x = .slice (some ad) m c) (hn : news.length = m * size) (hc : ∀ j u, news[j]? = some u → w.cell? (ad.add j) = some u) (h1c : ∀ u ∈ news, u.oneCell' = true)
    (b1 : n + m ≤ maxLen) (b2 : (n + m) * bytes ≤ 140737488355328) (b3 : B ≤ w.heap.size)
    (hK : ∀ v' w', w'.ownsRow B e size v' (n + m) (xs ++ news) → w.grownBy w' v.ownBlock → K (a.put o.dst v') w') :
    if Region.wanted o (yielded ops a.tmps) = true then Oper.wp P o a w K Q else E := by
  have hw : Region.wanted o (yielded ops a.tmps) = true := by simp [Region.wanted, hg]
  rw [if_pos hw]
  obtain ⟨v', w', hrun, r1, r2, _⟩ := run_append_own (P := P) w B t o.type e i z size bytes h1 h2 h3 h4 h5 h6 h7 v n xs hown ad m c news hn hc h1c b1 b2 b3
  unfold Oper.wp
  simp [execOp, hop, resolve, invoke, builtin, hs, hx, hrun, Result.andThen]
  exact hK v' w' r1 r2

/-- string(b) of a slice of the call's own. -/
theorem run_convert_own {P : Program} (w : World) (src e dst : TypeId) (hs : P.underlying src = some (.slice e)) (he : P.underlying e = some (.int .u8)) (hd : P.underlying dst = some .string)
    (B : Nat) (v : Value) (l : List UInt8) (hown : OwnB w B e v l) : (convert src dst v).run P w = .ok (.string ⟨l.toArray⟩) w := by
  have hown' := hown
  rcases hown'.2 with ⟨rfl, hn⟩ | ⟨g, cap, cur, rfl, hb, hg, hnc, hcm, hcs, htake⟩
  · obtain rfl : l = [] := List.eq_nil_of_length_eq_zero hn
    exact run_convert_bytes_nil w src e hs he 0 0 dst hd
  · have h := run_convert_bytes_arg (P := P) w src e hs he g 0 l.length cap (l.map fun b => (b.toNat : Int)) (by simp) (fun i hi => by
      have hc := hown.cellAt i (by simpa using hi)
      rw [Nat.zero_add, hc]
      simp [bcells, List.getD, hi]) dst hd
    rw [h]
    congr 2
    unfold strOfNums
    congr 2
    rw [List.map_map]
    conv => rhs; rw [← List.map_id l]
    apply List.map_congr_left
    intro b _
    simp

/-- The cells of a literal slice that was just laid. -/
theorem lit_cells (w : World) (cs : Array Value) (t : TypeId) : ∀ j u, cs.toList[j]? = some u → (w.alloc (.cells cs t)).cell? ((⟨w.heap.size, 0, none⟩ : Addr).add j) = some u := by
  intro j u hu
  have hadd : (⟨w.heap.size, 0, none⟩ : Addr).add j = ⟨w.heap.size, j, none⟩ := by unfold Addr.add; split <;> simp_all
  rw [hadd, cell_of_row _ w.heap.size j cs t (0, 0) (heap_alloc_new w _)]
  simpa using hu

/-- The slice with head A, length n reads as the cells xs (one cell an element). -/
def Rd (w : World) (A : Option Addr) (n : Nat) (xs : List Value) : Prop :=
  xs.length = n ∧ (0 < n → ∃ g o, A = some ⟨g, o, none⟩ ∧ g < w.heap.size ∧ ∀ j, j < n → ∀ u, xs[j]? = some u → w.cell? ⟨g, o + j, none⟩ = some u)
theorem Rd.of_own {w : World} {B : Nat} {e : TypeId} {v : Value} {n : Nat} {xs : List Value} (h : w.ownsRow B e 1 v n xs) : ∃ A c, v = .slice A n c ∧ n ≤ c ∧ c ≤ maxLen ∧ Rd w A n xs := by
  have hl : xs.length = n := by have := h.1; omega
  have h0 := h
  rcases h.2 with ⟨rfl, rfl⟩ | ⟨g, cap, cur, rfl, hb, hg, hnc, hcm, hcs, htake⟩
  · exact ⟨none, 0, rfl, Nat.le_refl _, by simp [maxLen], hl, fun h => absurd h (by omega)⟩
  · refine ⟨_, _, rfl, hnc, hcm, hl, fun _ => ⟨g, 0, rfl, (Array.getElem?_eq_some_iff.1 hg).1, fun j hj u hu => ?_⟩⟩
    rw [Nat.zero_add, h0.cellAt j (by omega)]
    exact hu
theorem Rd.of_block {w w' : World} {A : Option Addr} {n : Nat} {xs : List Value} (h : Rd w A n xs) (hk : ∀ g, g < w.heap.size → w'.heap[g]? = w.heap[g]?) : Rd w' A n xs := by
  refine ⟨h.1, fun hn => ?_⟩
  obtain ⟨g, o, rfl, hg, hc⟩ := h.2 hn
  have e := hk g hg
  have hs : g < w'.heap.size := by
    rcases Nat.lt_or_ge g w'.heap.size with h' | h'
    · exact h'
    · rw [Array.getElem?_eq_none h', Array.getElem?_eq_getElem hg] at e; cases e
  exact ⟨g, o, rfl, hs, fun j hj u hu => (World.cell?_of_block e).trans (hc j hj u hu)⟩
theorem Rd.below {w w' : World} {A : Option Addr} {n : Nat} {xs : List Value} (h : Rd w A n xs) (hb : Below w.heap.size w w') : Rd w' A n xs := h.of_block hb.block
theorem Rd.drewN {w : World} {A : Option Addr} {n : Nat} {xs : List Value} (h : Rd w A n xs) (k : Nat) : Rd (w.drewN k) A n xs := h
/-- A package-level variable reads on as it read. -/
theorem var_below {P : Program} {n : String} {cs : Array Value} {w w' : World} (h : w.var? P n = some cs) (hb : Below w.heap.size w w') : w'.var? P n = some cs := by
  unfold World.var? at h ⊢
  cases hg : P.globalNamed n with
  | none => simp [hg] at h
  | some g =>
    simp only [hg, Option.bind_some] at h ⊢
    have hlt : g < w.heap.size := by
      rcases Nat.lt_or_ge g w.heap.size with h' | h'
      · exact h'
      · simp [Array.getElem?_eq_none h'] at h
    rw [hb.block _ hlt]
    exact h
theorem grown_of_below {w w' : World} (h : Below w.heap.size w w') (row : Option Nat) : w.grownBy w' row := ⟨h.os, h.tape, h.output, h.size, fun k hk _ => h.block k hk⟩
theorem grown_trans {a b c : World} {row : Option Nat} (h : a.grownBy b row) (k : b.grownBy c row) : a.grownBy c row :=
  ⟨k.os.trans h.os, k.tape.trans h.tape, k.output.trans h.output, Nat.le_trans h.size k.size, fun i hi hne => (k.block i (Nat.lt_of_lt_of_le hi h.size) hne).trans (h.block i hi hne)⟩
theorem grown_drewN {a b : World} {row : Option Nat} (h : a.grownBy b row) (n : Nat) : a.grownBy (b.drewN n) row := ⟨h.os, h.tape, h.output, h.size, h.block⟩
theorem below_drewN {B : Nat} {a w : World} (h : Below B a w) (n : Nat) : Below B a (w.drewN n) := h.trans ⟨rfl, rfl, rfl, Nat.le_refl _, fun _ _ => rfl⟩

/-- A slice of ints that came in reads as its numbers. -/
theorem Rd.of_row {w : World} {a : Option Addr} {len cap : Nat} {zs : List Int} (h : IsRow .i64 w a len cap zs) : Rd w a len (icells (zs.take len)) ∧ (zs.take len).length = len ∧ ∀ x ∈ zs.take len, (Lit.int .i64 x).wf = true := by
  have hlen : (zs.take len).length = len := by
    rcases h with ⟨_, rfl, _, rfl⟩ | ⟨x, rfl, h1, h2, h3, _⟩
    · rfl
    · rw [List.length_take, h3]; omega
  have hwf : ∀ x ∈ zs.take len, (Lit.int .i64 x).wf = true := by
    rcases h with ⟨_, rfl, _, rfl⟩ | ⟨x, rfl, h1, h2, h3, h4, h5⟩
    · intro x hx; simp at hx
    · intro y hy; exact h5 y (List.mem_of_mem_take hy)
  refine ⟨⟨by rw [icells_length, hlen], fun hl => ?_⟩, hlen, hwf⟩
  obtain ⟨g, o, rfl, hg, hz⟩ := h.at_ hl
  refine ⟨g, o, rfl, hg, fun j hj u hu => ?_⟩
  rw [icells_get _ j (by omega)] at hu
  injection hu with hu
  rw [(hz j hj).2, ← hu]
  congr 2
  simp only [List.getD_eq_getElem?_getD]
  rw [List.getElem?_take_of_lt hj]
theorem i64_bd {n : Int} (h : (Lit.int .i64 n).wf = true) : -9223372036854775808 ≤ n ∧ n ≤ 9223372036854775807 := by
  have e1 : IntKind.i64.min = -9223372036854775808 := rfl
  have e2 : IntKind.i64.max = 9223372036854775807 := rfl
  simp [Lit.wf, e1, e2] at h
  exact h

/-! A block of the call's own that is stored whole. -/
theorem setRow_below {w w' : World} {B g : Nat} (h : Below B w w') (hg : B ≤ g) (c : Array Value) : Below B w (w'.setRow g c) := by
  refine ⟨h.os, h.tape, h.output, by simpa [World.setRow] using h.size, fun k hk => ?_⟩
  rw [← h.block k hk]
  simp only [World.setRow, Array.getElem?_modify]
  rw [if_neg (by omega)]
theorem setRow_at {w : World} {g : Nat} {c c0 : Array Value} {t : TypeId} (h : w.heap[g]? = some (.cells c0 t (0, 0))) : (w.setRow g c).heap[g]? = some (.cells c t (0, 0)) := by
  simp only [World.setRow, Array.getElem?_modify, if_true]
  rw [h]
  rfl
theorem heap_kept {B : Nat} {w w' : World} (h : Below B w w') {g : Nat} (hg : g < B) {o : Obj} (he : w.heap[g]? = some o) : w'.heap[g]? = some o := (h.block g hg).trans he

/-- A block of two cells, stored cell by cell. -/
theorem two_cells {w : World} {g : Nat} {a b : Value} {t : TypeId} (h : w.heap[g]? = some (.cells #[a, b] t (0, 0))) : w.cell? ⟨g, 0, none⟩ = some a ∧ w.cell? ⟨g, 1, none⟩ = some b ∧ w.frozen? ⟨g, 0, none⟩ = false ∧ w.frozen? ⟨g, 1, none⟩ = false := by
  refine ⟨by rw [cell_of_row w g 0 _ t (0, 0) h]; rfl, by rw [cell_of_row w g 1 _ t (0, 0) h]; rfl, ?_, ?_⟩
  · unfold World.frozen?; rw [h]; rfl
  · unfold World.frozen?; rw [h]; rfl
theorem set_two {w : World} {g : Nat} {a b : Value} {t : TypeId} (h : w.heap[g]? = some (.cells #[a, b] t (0, 0))) (x y : Value) : ((w.setCell ⟨g, 0, none⟩ x).setCell ⟨g, 1, none⟩ y).heap[g]? = some (.cells #[x, y] t (0, 0)) := by
  simp [World.setCell, Array.getElem?_modify, h]

theorem set_fst {w : World} {g : Nat} {a b : Value} {t : TypeId} (h : w.heap[g]? = some (.cells #[a, b] t (0, 0))) (x : Value) : (w.setCell ⟨g, 0, none⟩ x).heap[g]? = some (.cells #[x, b] t (0, 0)) := by
  simp [World.setCell, Array.getElem?_modify, h]
theorem set_snd {w : World} {g : Nat} {a b : Value} {t : TypeId} (h : w.heap[g]? = some (.cells #[a, b] t (0, 0))) (x : Value) : (w.setCell ⟨g, 1, none⟩ x).heap[g]? = some (.cells #[a, x] t (0, 0)) := by
  simp [World.setCell, Array.getElem?_modify, h]

end Go.Proofs.YtdgedclpaplgoaaGreatDoor
namespace Go.Proofs.YtdgedclpaplgoaaGreatDoor.lawMark
open Go Go.RowKit
set_option linter.unusedVariables false

/-- The digits of m in front of acc (f: fuel). -/
def dg : Nat → Nat → List UInt8 → List UInt8
  | 0, _, acc => acc
  | f + 1, m, acc => if m = 0 then acc else dg f (m / 10) (UInt8.ofNat (48 + m % 10) :: acc)
theorem dg_zero (f : Nat) (acc : List UInt8) : dg f 0 acc = acc := by cases f <;> simp [dg]
/-- The law's mark of number m. -/
def mt (m : Int) : ByteArray := if m ≤ 0 then ⟨#[109, 48]⟩ else ⟨(109 :: dg m.toNat m.toNat []).toArray⟩
theorem mt_lo {m : Int} (h : m ≤ 0) : mt m = ⟨#[109, 48]⟩ := by unfold mt; rw [if_pos h]
theorem mt_hi {m : Int} (h : ¬ m ≤ 0) : mt m = ⟨(109 :: dg m.toNat m.toNat []).toArray⟩ := by unfold mt; rw [if_neg h]

theorem dg_length : ∀ (f m : Nat) (acc : List UInt8), (dg f m acc).length ≤ f + acc.length
  | 0, m, acc => by simp [dg]
  | f + 1, m, acc => by
    rw [dg]
    split
    · omega
    · have h := dg_length f (m / 10) (UInt8.ofNat (48 + m % 10) :: acc)
      rw [List.length_cons] at h
      omega
theorem mt_size (m : Int) (h : m ≤ 4611686018427387904) : (mt m).size ≤ maxLen := by
  unfold mt maxLen
  split
  · decide
  · show (109 :: dg m.toNat m.toNat []).toArray.size ≤ _
    rw [List.size_toArray, List.length_cons]
    have := dg_length m.toNat m.toNat []
    simp at this
    omega
theorem wf_of {k : Int} (h0 : -9223372036854775808 ≤ k) (h1 : k ≤ 9223372036854775807) : (Lit.int .i64 k).wf = true := by
  have e1 : IntKind.i64.min = -9223372036854775808 := rfl
  have e2 : IntKind.i64.max = 9223372036854775807 := rfl
  simp [Lit.wf, e1, e2]
  omega
end Go.Proofs.YtdgedclpaplgoaaGreatDoor.lawMark
namespace Go.Proofs.YtdgedclpaplgoaaGreatDoor.cut
open Go Go.RowKit
set_option linter.unusedVariables false

/-- Behind k bytes: where the open part begins, and the parts so far. The end of the text counts as the byte. -/
def cs (s : ByteArray) (c : Int) : Nat → Nat × List ByteArray
  | 0 => (0, [])
  | k + 1 => if k = s.size ∨ at_ s k = c then (k + 1, (cs s c k).2 ++ [s.extract (cs s c k).1 k]) else cs s c k
theorem cs_bd (s : ByteArray) (c : Int) (k : Nat) : (cs s c k).1 ≤ k ∧ (cs s c k).2.length ≤ k := by
  induction k with
  | zero => simp [cs]
  | succ k ih =>
    simp only [cs]
    split
    · refine ⟨Nat.le_refl _, ?_⟩
      simp; omega
    · omega
theorem cs_no {s : ByteArray} {c : Int} {k b : Nat} {l : List ByteArray} (h : cs s c k = (b, l)) (h1 : k < s.size) (h2 : at_ s k ≠ c) : cs s c (k + 1) = (b, l) := by
  simp only [cs]; rw [if_neg (by omega)]; exact h
theorem cs_add {s : ByteArray} {c : Int} {k b : Nat} {l : List ByteArray} (h : cs s c k = (b, l)) (h1 : k = s.size ∨ at_ s k = c) : cs s c (k + 1) = (k + 1, l ++ [s.extract b k]) := by
  simp only [cs]; rw [if_pos h1, h]
def cutF (s : ByteArray) (c : Int) : List ByteArray := (cs s c (s.size + 1)).2
theorem cut_le (s : ByteArray) (c : Int) : (cutF s c).length ≤ s.size + 1 := (cs_bd s c _).2
/-- No part is longer than the text. -/
theorem cs_sizes (s : ByteArray) (c : Int) (k : Nat) : ∀ x ∈ (cs s c k).2, x.size ≤ s.size := by
  induction k with
  | zero => intro x hx; simp [cs] at hx
  | succ k ih =>
    intro x hx
    simp only [cs] at hx
    split at hx
    · rcases List.mem_append.1 hx with h | h
      · exact ih x h
      · rw [List.mem_singleton] at h
        subst h
        rw [ByteArray.size_extract]
        omega
    · exact ih x hx
theorem cut_sizes (s : ByteArray) (c : Int) : ∀ x ∈ cutF s c, x.size ≤ s.size := cs_sizes s c _
/-- What a function that makes a list of strings hands back. -/
def OutS (e0 : TypeId) (w : World) (l : List ByteArray) (e : Ending) (w' : World) : Prop := ∃ v, e = .returned v ∧ w'.ownsRow w.heap.size e0 1 v l.length (scells l) ∧ Below w.heap.size w w'
end Go.Proofs.YtdgedclpaplgoaaGreatDoor.cut
namespace Go.Proofs.YtdgedclpaplgoaaGreatDoor.cut
open Go Go.RowKit
set_option linter.unusedVariables false

def splitL (c : Int) : List UInt8 → List (List UInt8)
  | [] => [[]]
  | b :: r => if (b.toNat : Int) = c then [] :: splitL c r else match splitL c r with
    | [] => [[b]]
    | h :: t => (b :: h) :: t
theorem split_no {c : Int} : ∀ (x : List UInt8), (∀ b ∈ x, (b.toNat : Int) ≠ c) → splitL c x = [x]
  | [], _ => rfl
  | b :: r, h => by
    rw [splitL, if_neg (h b List.mem_cons_self), split_no r fun y hy => h y (List.mem_cons_of_mem _ hy)]
theorem split_cons {c : Int} {b : UInt8} (hb : (b.toNat : Int) = c) : ∀ (x r : List UInt8), (∀ y ∈ x, (y.toNat : Int) ≠ c) → splitL c (x ++ b :: r) = x :: splitL c r
  | [], r, _ => by rw [List.nil_append, splitL, if_pos hb]
  | y :: x, r, h => by
    rw [List.cons_append, splitL, if_neg (h y List.mem_cons_self), split_cons hb x r fun z hz => h z (List.mem_cons_of_mem _ hz)]
def mk (x : List UInt8) : ByteArray := ⟨x.toArray⟩
theorem mk_ex (s : ByteArray) (a b : Nat) : s.extract a b = mk ((s.data.toList.drop a).take (b - a)) := by
  apply ByteArray.ext
  apply Array.ext'
  rw [ByteArray.data_extract, Array.toList_extract, List.extract_eq_take_drop]
  rfl
/-- What is behind k bytes: no byte of the kind since the open part began, and the rest still to be cut. -/
theorem cs_inv (s : ByteArray) (c : Int) : ∀ k, k ≤ s.size → (∀ i, (cs s c k).1 ≤ i → i < k → at_ s i ≠ c) ∧ (cs s c k).2 ++ (splitL c (s.data.toList.drop (cs s c k).1)).map mk = (splitL c s.data.toList).map mk := by
  intro k
  induction k with
  | zero => intro _; exact ⟨fun i _ h => by omega, by simp [cs]⟩
  | succ k ih =>
    intro hk
    obtain ⟨h1, h2⟩ := ih (by omega)
    have hb := (cs_bd s c k).1
    by_cases hc : at_ s k = c
    · have e : cs s c (k + 1) = (k + 1, (cs s c k).2 ++ [s.extract (cs s c k).1 k]) := cs_add rfl (.inr hc)
      rw [e]
      refine ⟨fun i h3 h4 => by simp only at h3; omega, ?_⟩
      have hlen : s.data.toList.length = s.size := by rw [Array.length_toList]; rfl
      have hkl : k < s.data.toList.length := by omega
      have hd : s.data.toList.drop (cs s c k).1 = (s.data.toList.drop (cs s c k).1).take (k - (cs s c k).1) ++ s.data.toList[k] :: s.data.toList.drop (k + 1) := by
        have h5 := (List.take_append_drop (k - (cs s c k).1) (s.data.toList.drop (cs s c k).1)).symm
        rw [List.drop_drop, show (cs s c k).1 + (k - (cs s c k).1) = k by omega, List.drop_eq_getElem_cons hkl] at h5
        exact h5
      have hat : ∀ i (h : i < s.data.toList.length), (s.data.toList[i].toNat : Int) = at_ s i := fun i h => by
        unfold at_
        rw [List.getD_eq_getElem?_getD, List.getElem?_eq_getElem h]
        rfl
      rw [hd, split_cons (by rw [hat k hkl]; exact hc) _ _ (fun y hy => by
        obtain ⟨i, hi, rfl⟩ := List.getElem_of_mem hy
        rw [List.length_take, List.length_drop] at hi
        rw [List.getElem_take, List.getElem_drop, hat]
        exact h1 _ (by omega) (by omega)), List.map_cons] at h2
      rw [← h2, mk_ex]
      simp
    · rw [show cs s c (k + 1) = cs s c k from cs_no rfl (by omega) hc]
      refine ⟨fun i h3 h4 => ?_, h2⟩
      by_cases e : i = k
      · subst e; exact hc
      · exact h1 i h3 (by omega)
theorem cut_is (s : ByteArray) (c : Int) : cutF s c = (splitL c s.data.toList).map mk := by
  obtain ⟨h1, h2⟩ := cs_inv s c s.size (Nat.le_refl _)
  have hb := (cs_bd s c s.size).1
  have hlen : s.data.toList.length = s.size := by rw [Array.length_toList]; rfl
  unfold cutF
  rw [show cs s c (s.size + 1) = (s.size + 1, (cs s c s.size).2 ++ [s.extract (cs s c s.size).1 s.size]) from cs_add rfl (.inl rfl)]
  rw [split_no (s.data.toList.drop (cs s c s.size).1) (fun y hy => by
    obtain ⟨i, hi, rfl⟩ := List.getElem_of_mem hy
    rw [List.length_drop] at hi
    rw [List.getElem_drop]
    have h3 := h1 ((cs s c s.size).1 + i) (by omega) (by omega)
    unfold at_ at h3
    rw [List.getD_eq_getElem?_getD, List.getElem?_eq_getElem (by omega)] at h3
    exact h3)] at h2
  rw [← h2, mk_ex, List.take_of_length_le (by rw [List.length_drop]; omega)]
  rfl
end Go.Proofs.YtdgedclpaplgoaaGreatDoor.cut
namespace Go.Proofs.YtdgedclpaplgoaaGreatDoor.lab
open Go Go.RowKit
set_option linter.unusedVariables false

/-- A letter or a digit. -/
def isL (b : Int) : Bool := (decide (97 ≤ b) && decide (b ≤ 122)) || (decide (65 ≤ b) && decide (b ≤ 90)) || (decide (48 ≤ b) && decide (b ≤ 57))
/-- A byte of a name. -/
def nameB (b : Int) : Bool := (isL b && !(decide (65 ≤ b) && decide (b ≤ 90))) || b == 45
structure NameP (s : ByteArray) : Prop where
  lo : 1 ≤ s.size
  hi : s.size ≤ 20
  fst : at_ s 0 ≠ 45
  lst : at_ s (s.size - 1) ≠ 45
  all : ∀ i, i < s.size → nameB (at_ s i) = true
/-- A byte of a word that has the first k bytes of o within. -/
def acc (o : ByteArray) (b : Int) (k : Nat) : Bool := isL b || (List.range k).any (fun j => b == at_ o j)
theorem acc_zero (o : ByteArray) (b : Int) : acc o b 0 = isL b := by simp [acc]
theorem acc_succ (o : ByteArray) (b : Int) (k : Nat) : acc o b (k + 1) = (acc o b k || (b == at_ o k)) := by
  unfold acc
  rw [List.range_succ, List.any_append, ← Bool.or_assoc]
  simp
def wordB (o : ByteArray) (b : Int) : Bool := acc o b o.size
structure WordP (o s : ByteArray) : Prop where
  lo : 1 ≤ s.size
  fst : isL (at_ s 0) = true
  lst : isL (at_ s (s.size - 1)) = true
  all : ∀ i, i < s.size → wordB o (at_ s i) = true
def keyO : ByteArray := ⟨#[45, 95, 46, 47]⟩
def valO : ByteArray := ⟨#[45, 95, 46]⟩
def KeyP (s : ByteArray) : Prop := s.size ≤ 30 ∧ WordP keyO s
def ValP (s : ByteArray) : Prop := s.size = 0 ∨ (s.size ≤ 20 ∧ WordP valO s)
open Classical in
noncomputable def yes (p : Prop) : Bool := if p then true else false
theorem yes_t {p : Prop} (h : p) : yes p = true := by unfold yes; rw [if_pos h]
theorem yes_f {p : Prop} (h : ¬ p) : yes p = false := by unfold yes; rw [if_neg h]
theorem yes_iff {p : Prop} : yes p = true ↔ p := by
  by_cases h : p
  · rw [yes_t h]; simp [h]
  · rw [yes_f h]; simp [h]
end Go.Proofs.YtdgedclpaplgoaaGreatDoor.lab
namespace Go.Proofs.YtdgedclpaplgoaaGreatDoor.dedup
open Go Go.RowKit
set_option linter.unusedVariables false
variable {α : Type}

def insD (lt : α → α → Bool) (x : α) : List α → List α
  | [] => [x]
  | y :: r => if lt y x = true then y :: insD lt x r else if lt x y = true then x :: y :: r else y :: r
/-- The elements in order, each once. -/
def dsort (lt : α → α → Bool) (l : List α) : List α := l.foldl (fun acc x => insD lt x acc) []
theorem dsort_snoc (lt : α → α → Bool) (l : List α) (x : α) : dsort lt (l ++ [x]) = insD lt x (dsort lt l) := by
  unfold dsort
  rw [List.foldl_append]
  rfl
theorem insD_stay {lt : α → α → Bool} {x : α} : ∀ {S : List α} {k : Nat} (hk : k < S.length), (∀ q (h : q < k), lt (S[q]'(by omega)) x = true) → lt S[k] x = false → lt x S[k] = false → insD lt x S = S
  | [], _, hk, _, _, _ => by simp at hk
  | y :: r, 0, _, _, h2, h3 => by
    simp only [List.getElem_cons_zero] at h2 h3
    rw [insD, if_neg (by rw [h2]; simp), if_neg (by rw [h3]; simp)]
  | y :: r, k + 1, hk, h1, h2, h3 => by
    have h0 := h1 0 (by omega)
    simp only [List.getElem_cons_zero] at h0
    rw [insD, if_pos h0, insD_stay (S := r) (k := k) (by simpa using hk) (fun q h => by have := h1 (q + 1) (by omega); simpa using this) (by simpa using h2) (by simpa using h3)]
theorem insD_put {lt : α → α → Bool} {x : α} : ∀ {S : List α} {k : Nat} (hk : k ≤ S.length), (∀ q (h : q < k), lt (S[q]'(by omega)) x = true) → (∀ h : k < S.length, lt S[k] x = false ∧ lt x S[k] = true) → insD lt x S = S.take k ++ x :: S.drop k
  | [], k, hk, _, _ => by
    have : k = 0 := by simpa using hk
    subst this
    rfl
  | y :: r, 0, _, _, h2 => by
    obtain ⟨h2, h3⟩ := h2 (by simp)
    simp only [List.getElem_cons_zero] at h2 h3
    rw [insD, if_neg (by rw [h2]; simp), if_pos h3]
    rfl
  | y :: r, k + 1, hk, h1, h2 => by
    have h0 := h1 0 (by omega)
    simp only [List.getElem_cons_zero] at h0
    rw [insD, if_pos h0, insD_put (S := r) (k := k) (by simpa using hk) (fun q h => by have := h1 (q + 1) (by omega); simpa using this) (fun h => by have := h2 (by simpa using h); simpa using this)]
    rfl
theorem insD_length (lt : α → α → Bool) (x : α) : ∀ S : List α, (insD lt x S).length ≤ S.length + 1
  | [] => Nat.le_refl _
  | y :: r => by
    have ih := insD_length lt x r
    rw [insD]
    split
    · simp only [List.length_cons]; omega
    split <;> simp
theorem insD_sub (lt : α → α → Bool) (x : α) : ∀ (S : List α) (y : α), y ∈ insD lt x S → y = x ∨ y ∈ S
  | [], y, h => by left; simpa [insD] using h
  | z :: r, y, h => by
    rw [insD] at h
    split at h
    · rcases List.mem_cons.1 h with rfl | h
      · exact .inr List.mem_cons_self
      · exact (insD_sub lt x r y h).imp id (List.mem_cons_of_mem _)
    split at h
    · rcases List.mem_cons.1 h with rfl | h
      · exact .inl rfl
      · exact .inr h
    · exact .inr h
theorem dsort_length (lt : α → α → Bool) (l : List α) : (dsort lt l).length ≤ l.length := by
  suffices h : ∀ (l acc : List α), (l.foldl (fun acc x => insD lt x acc) acc).length ≤ acc.length + l.length by simpa [dsort] using h l []
  intro l
  induction l with
  | nil => intro acc; simp
  | cons x l ih =>
    intro acc
    have h1 := ih (insD lt x acc)
    have h2 := insD_length lt x acc
    simp only [List.foldl_cons, List.length_cons]
    omega
theorem dsort_sub (lt : α → α → Bool) (l : List α) : ∀ y ∈ dsort lt l, y ∈ l := by
  suffices h : ∀ (l acc : List α) (y : α), y ∈ l.foldl (fun acc x => insD lt x acc) acc → y ∈ acc ∨ y ∈ l from fun y hy => by simpa using h l [] y hy
  intro l
  induction l with
  | nil => intro acc y h; exact .inl h
  | cons x l ih =>
    intro acc y h
    rcases ih _ _ h with h | h
    · rcases insD_sub lt x acc y h with rfl | h
      · exact .inr List.mem_cons_self
      · exact .inl h
    · exact .inr (List.mem_cons_of_mem _ h)
/-- An order in which of two that differ one is less. -/
structure Ord (lt : α → α → Bool) : Prop where
  irr : ∀ a, lt a a = false
  tot : ∀ a b, lt a b = false → lt b a = false → a = b
  tr : ∀ a b c, lt a b = true → lt b c = true → lt a c = true
def Asc (lt : α → α → Bool) (l : List α) : Prop := l.Pairwise fun a b => lt a b = true
theorem insD_has {lt : α → α → Bool} (o : Ord lt) (x : α) : ∀ S : List α, x ∈ insD lt x S ∧ ∀ y ∈ S, y ∈ insD lt x S
  | [] => ⟨by simp [insD], fun y h => by cases h⟩
  | z :: r => by
    obtain ⟨h1, h2⟩ := insD_has o x r
    rw [insD]
    split
    · refine ⟨List.mem_cons_of_mem _ h1, fun y hy => ?_⟩
      rcases List.mem_cons.1 hy with rfl | hy
      · exact List.mem_cons_self
      · exact List.mem_cons_of_mem _ (h2 y hy)
    split
    · exact ⟨List.mem_cons_self, fun y hy => List.mem_cons_of_mem _ hy⟩
    · rename_i a b
      have : z = x := o.tot _ _ (by simpa using a) (by simpa using b)
      subst this
      exact ⟨List.mem_cons_self, fun y hy => hy⟩
theorem insD_asc {lt : α → α → Bool} (o : Ord lt) (x : α) : ∀ S : List α, Asc lt S → Asc lt (insD lt x S)
  | [], _ => by simp [insD, Asc]
  | z :: r, h => by
    obtain ⟨h1, h2⟩ := List.pairwise_cons.1 h
    rw [insD]
    split
    · rename_i a
      refine List.pairwise_cons.2 ⟨fun y hy => ?_, insD_asc o x r h2⟩
      rcases insD_sub lt x r y hy with rfl | hy
      · exact a
      · exact h1 y hy
    split
    · rename_i a b
      refine List.pairwise_cons.2 ⟨fun y hy => ?_, h⟩
      rcases List.mem_cons.1 hy with rfl | hy
      · exact b
      · exact o.tr _ _ _ b (h1 y hy)
    · exact h
theorem dsort_all {lt : α → α → Bool} (o : Ord lt) (l : List α) : Asc lt (dsort lt l) ∧ ∀ y, y ∈ dsort lt l ↔ y ∈ l := by
  refine ⟨?_, fun y => ⟨dsort_sub lt l y, ?_⟩⟩
  · suffices h : ∀ (l acc : List α), Asc lt acc → Asc lt (l.foldl (fun acc x => insD lt x acc) acc) from h l [] List.Pairwise.nil
    intro l
    induction l with
    | nil => intro acc h; exact h
    | cons x l ih => intro acc h; exact ih _ (insD_asc o x acc h)
  · suffices h : ∀ (l acc : List α) (y : α), y ∈ acc ∨ y ∈ l → y ∈ l.foldl (fun acc x => insD lt x acc) acc from fun hy => h l [] y (.inr hy)
    intro l
    induction l with
    | nil => intro acc y h; exact h.elim id (fun h => by cases h)
    | cons x l ih =>
      intro acc y h
      refine ih _ y ?_
      obtain ⟨h1, h2⟩ := insD_has o x acc
      rcases h with h | h
      · exact .inl (h2 y h)
      · rcases List.mem_cons.1 h with rfl | h
        · exact .inl h1
        · exact .inr h
theorem asc_same {lt : α → α → Bool} (o : Ord lt) : ∀ a b : List α, Asc lt a → Asc lt b → (∀ y, y ∈ a ↔ y ∈ b) → a = b
  | [], [], _, _, _ => rfl
  | [], y :: b, _, _, h => absurd ((h y).2 List.mem_cons_self) (by simp)
  | x :: a, [], _, _, h => absurd ((h x).1 List.mem_cons_self) (by simp)
  | x :: a, y :: b, ha, hb, h => by
    obtain ⟨ha1, ha2⟩ := List.pairwise_cons.1 ha
    obtain ⟨hb1, hb2⟩ := List.pairwise_cons.1 hb
    have no : ∀ u v, lt u v = true → lt v u = true → False := fun u v h1 h2 => by
      have := o.tr _ _ _ h1 h2
      rw [o.irr] at this
      cases this
    have e : x = y := by
      rcases List.mem_cons.1 ((h x).1 List.mem_cons_self) with e | h1
      · exact e
      rcases List.mem_cons.1 ((h y).2 List.mem_cons_self) with e | h2
      · exact e.symm
      exact (no _ _ (ha1 _ h2) (hb1 _ h1)).elim
    subst e
    rw [asc_same o a b ha2 hb2 fun z => ?_]
    constructor
    · intro hz
      rcases List.mem_cons.1 ((h z).1 (List.mem_cons_of_mem _ hz)) with rfl | h1
      · have := ha1 _ hz
        rw [o.irr] at this
        cases this
      · exact h1
    · intro hz
      rcases List.mem_cons.1 ((h z).2 (List.mem_cons_of_mem _ hz)) with rfl | h1
      · have := hb1 _ hz
        rw [o.irr] at this
        cases this
      · exact h1
/-- Whoever puts the elements in order, each once, gives this list. -/
theorem dsort_is {lt : α → α → Bool} (o : Ord lt) (l r : List α) (h1 : Asc lt r) (h2 : ∀ y, y ∈ r ↔ y ∈ l) : r = dsort lt l :=
  asc_same o _ _ h1 (dsort_all o l).1 fun y => (h2 y).trans ((dsort_all o l).2 y).symm
/-- A list in order stands as it is. -/
theorem dsort_asc {lt : α → α → Bool} (o : Ord lt) (l : List α) (h : Asc lt l) : dsort lt l = l := (dsort_is o l l h fun y => Iff.rfl).symm
end Go.Proofs.YtdgedclpaplgoaaGreatDoor.dedup
namespace Go.Proofs.YtdgedclpaplgoaaGreatDoor.lab
open Go.ChangeShapes Go.WideShapes Go.ChangeAt Go.RowKit
set_option linter.unusedVariables false

theorem drew_of {w wr : World} (h : ∃ n, wr = w.drewN n) (m : Nat) : ∃ n, wr.drewN m = w.drewN n := by
  obtain ⟨n, rfl⟩ := h
  exact ⟨n + m, by simp⟩
end Go.Proofs.YtdgedclpaplgoaaGreatDoor.lab
namespace Go.Proofs.YtdgedclpaplgoaaGreatDoor
open Go Go.RowKit
set_option linter.unusedVariables false

/-- A world that keeps all that was there. -/
structure BelowBy (w : World) where
  v : World
  h : Below w.heap.size w v
def BelowBy.start (w : World) : BelowBy w := ⟨w.drewN 1, below_drewN (Below.refl _ _) 1⟩
instance (w : World) : Inhabited (BelowBy w) := ⟨BelowBy.start w⟩
theorem drew_below' {P : Program} {f : FuncId} {args : Array Value} {w : World} {E : Ending} (h : Calls P f args w fun e w' => e = E ∧ ∃ n, w' = w.drewN n) : Calls P f args w fun e w' => e = E ∧ Below w.heap.size w w' :=
  h.mono fun _ _ ⟨he, n, hn⟩ => ⟨he, by rw [hn]; exact below_drewN (Below.refl _ _) n⟩
theorem wp_region_quiet_below {P : Program} {id : Nat} {Q : Exit → Act → World → Prop} {a : Act} {w : World} {l : List Oper} (hm : P.follows .mixedOrders = true) (hB : Region.lexB .any l.toArray = true)
    (h : wpQuiet P l.toArray (fun w' => ∃ p : BelowBy w, w' = p.v) (fun a' => ∀ w', (∃ p : BelowBy w, w' = p.v) → Q .normal a' w') l a) : (Code.region id l.toArray true).wp P Q a w :=
  wp_region_quiet (C := fun w' => ∃ p : BelowBy w, w' = p.v) hm hB ⟨BelowBy.start w, rfl⟩ (by simpa using h)
theorem BelowBy.cell {w : World} {a : Addr} {v : Value} (hb : a.block < w.heap.size) (h : w.cell? a = some v) (p : BelowBy w) : p.v.cell? a = some v :=
  (World.cell?_of_block (p.h.block _ hb)).trans h
/-- A callee's contract, met in a world of the class. -/
theorem Calls.below_of {P : Program} {f : FuncId} {args : Array Value} {w : World} {p : BelowBy w} {v : Value}
    (h : Calls P f args p.v fun e w' => e = .returned v ∧ Below p.v.heap.size p.v w') : Calls P f args p.v fun e w'' => e = .returned v ∧ ∃ q : BelowBy w, w'' = q.v :=
  h.mono fun _ w' ⟨he, hw⟩ => ⟨he, ⟨w', p.h.trans (hw.mono p.h.size)⟩, rfl⟩
end Go.Proofs.YtdgedclpaplgoaaGreatDoor
