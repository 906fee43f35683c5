/- Merged: Base Draw DrawPick DrawOnce DrawPickS DrawLab MarkM WdM LabI DrewM. -/
import Derived.WalkKit
import Derived.Below
import Derived.Laws.BytesArg
import Derived.Deep.RegionLaw
import Derived.Deep.QuietTactic
import Derived.BigQuiet
import Derived.RegionTactic
import Derived.BigRegion
import Derived.ShutString
import Derived.Lib.Hide
import Derived.Test.YtcfbkfmkjggcdaaGreatDoorRows
import Derived.ProofKit
import Derived.OpenShut
import Derived.Deep.WholeRow
set_option linter.unusedVariables false
namespace Go.Proofs.YtcfbkfmkjggcdaaGreatDoor
section
open Go Go.RowKit
def qo (k : IntKind) (w : World) (a : Option Addr) (len cap : Nat) (zs : List Int) : Prop:=
  (a = none ∧ len = 0 ∧ cap = 0 ∧ zs = []) ∨
  ∃ x,a = some x ∧ len ≤ cap ∧ cap ≤ maxLen ∧ zs.length = cap ∧ (∀ i,i < zs.length → w.cell? (x.add i) = some (.int k (zs.getD i 0))) ∧ ∀ n ∈ zs,(Lit.int k n).wf = true
theorem qo.at_ {k : IntKind} {w : World} {a : Option Addr} {len cap : Nat} {zs : List Int} (h : qo k w a len cap zs) (hl : 0 < len) :
    ∃ g o,a = some ⟨g,o,none⟩ ∧ g < w.heap.size ∧ ∀ j,j < len → (Lit.int k (zs.getD j 0)).wf = true ∧ w.cell? ⟨g,o + j,none⟩ = some (.int k (zs.getD j 0)):=by
  rcases h with ⟨_,rfl,_⟩ | ⟨x,rfl,h1,h2,h3,h4,h5⟩
  · omega
  · obtain ⟨g,o,sp⟩:=x;have hc:=h4 0 (by omega);have hsp : sp = none:=(by simpa [Addr.add] using World.cell?_spot hc);subst hsp;refine ⟨g,o,rfl,?_,fun j hj=>⟨?_,?_⟩⟩
    · have:=World.block_lt_of_cell? w _ hc;simpa [Addr.add] using this
    · have hj2 : j < zs.length:=(by omega);rw [List.getD_eq_getElem?_getD,List.getElem?_eq_getElem hj2];exact h5 _ (List.getElem_mem hj2)
    · have:=h4 j (by omega);rw [Addr.add_lit] at this;exact this
theorem qo.le {k : IntKind} {w : World} {a : Option Addr} {len cap : Nat} {zs : List Int} (h : qo k w a len cap zs) : len ≤ maxLen:=by
  rcases h with ⟨_,rfl,_⟩ | ⟨x,rfl,h1,h2,_⟩
  · exact Nat.zero_le _
  · omega
theorem Jf {k : IntKind} {a b : Int} (h : a = b) : Ending.returned (.int k a) = .returned (.int k b):=by rw [h]
theorem PX {a b : ByteArray} (h : a = b) : Ending.returned (.string a) = .returned (.string b):=by rw [h]
theorem bytes_append (l r : List UInt8) : (⟨l.toArray⟩ : ByteArray) ++ ⟨r.toArray⟩ = ⟨(l ++ r).toArray⟩:=by
  apply ByteArray.ext;simp
theorem pJ (a : UInt8) (r : List UInt8) : (⟨#[a]⟩ : ByteArray) ++ ⟨r.toArray⟩ = ⟨(a :: r).toArray⟩:=bytes_append [a] r
theorem lK {f : ByteArray} (h : 0 < f.size) : f.toList.isEmpty = false:=by
  rw [ByteArray.toList_eq];cases hl : f.data.toList with
  | nil=>
           have : f.data.toList.length = f.size:=(by simp);rw [hl] at this; simp at this; omega
  | cons a r=>rfl
theorem jS {f : ByteArray} (h : f.size = 0) : f.toList.isEmpty = true:=by
  rw [ByteArray.toList_eq];cases hl : f.data.toList with
  | nil=>rfl
  | cons a r=>
                have : f.data.toList.length = f.size:=(by simp);rw [hl] at this; simp at this; omega
def at_ (s : ByteArray) (i : Nat) : Int:=((s.data.toList.getD i 0).toNat : Int)
theorem at_eq (s : ByteArray) (i : Nat) (h : i < s.size) : (s[i].toNat : Int) = at_ s i:=by
  unfold at_;have h2 : i < s.data.toList.length:=(by simpa using h);rw [List.getD_eq_getElem?_getD,List.getElem?_eq_getElem h2];rfl
def aT (l : List ByteArray) : List Value:=l.map Value.string
theorem bG (l : List ByteArray) : (aT l).length = l.length:=by simp [aT]
theorem tL (l r : List ByteArray) : aT (l ++ r) = aT l ++ aT r:=by simp [aT]
theorem bV (l : List ByteArray) (i : Nat) (h : i < l.length) : (aT l)[i]? = some (.string l[i]):=by simp [aT,h]
def iP (l : List Int) : List Value:=l.map (Value.int .i64)
theorem tN (l r : List Int) : iP (l ++ r) = iP l ++ iP r:=by simp [iP]
theorem uF (l : List Int) (i : Nat) (h : i < l.length) : (iP l)[i]? = some (.int .i64 (l.getD i 0)):=by simp [iP,List.getD,h]
def dO (l : List UInt8) : List Value:=l.map fun b=>.int .u8 b.toNat
def PY (w : World) (B : Nat) (e : TypeId) (v : Value) (l : List UInt8) : Prop:=w.ownsRow B e 1 v l.length (dO l)
theorem jP {P : Program} (w : World) (src e dst : TypeId) (hs : P.underlying src = some (.slice e)) (he : P.underlying e = some (.int .u8)) (hd : P.underlying dst = some .string)
    (B : Nat) (v : Value) (l : List UInt8) (hown : PY w B e v l) : (convert src dst v).run P w = .ok (.string ⟨l.toArray⟩) w:=by
  have hown':=hown;rcases hown'.2 with ⟨rfl,hn⟩ | ⟨g,cap,cur,rfl,hb,hg,hnc,hcm,hcs,htake⟩
  · obtain rfl : l = []:=List.eq_nil_of_length_eq_zero hn;exact run_convert_bytes_nil w src e hs he 0 0 dst hd
  · have h:=run_convert_bytes_arg (P:=P) w src e hs he g 0 l.length cap (l.map fun b=>(b.toNat : Int)) (by simp) (fun i hi=>by
      have hc:=hown.cellAt i (by simpa using hi);rw [Nat.zero_add,hc];simp [dO,List.getD,hi]) dst hd
    rw [h]
    congr 2
    unfold strOfNums
    congr 2
    rw [List.map_map]
    conv=>rhs; rw [← List.map_id l]
    apply List.map_congr_left;intro b _;simp
theorem Kh (w : World) (cs : Array Value) (t : TypeId) : ∀ j u,cs.toList[j]? = some u → (w.alloc (.cells cs t)).cell? ((⟨w.heap.size,0,none⟩ : Addr).add j) = some u:=by
  intro j u hu;have hadd : (⟨w.heap.size,0,none⟩ : Addr).add j = ⟨w.heap.size,j,none⟩:=(by unfold Addr.add; split <;> simp_all);rw [hadd,cell_of_row _ w.heap.size j cs t (0,0) (heap_alloc_new w _)];simpa using hu
def Rd (w : World) (A : Option Addr) (n : Nat) (xs : List Value) : Prop:=
  xs.length = n ∧ (0 < n → ∃ g o,A = some ⟨g,o,none⟩ ∧ g < w.heap.size ∧ ∀ j,j < n → ∀ u,xs[j]? = some u → w.cell? ⟨g,o + j,none⟩ = some u)
theorem Rd.Me {w : World} {B : Nat} {e : TypeId} {v : Value} {n : Nat} {xs : List Value} (h : w.ownsRow B e 1 v n xs) : ∃ A c,v = .slice A n c ∧ n ≤ c ∧ c ≤ maxLen ∧ Rd w A n xs:=by
  have hl : xs.length = n:=(by have:=h.1; omega);have h0:=h;rcases h.2 with ⟨rfl,rfl⟩ | ⟨g,cap,cur,rfl,hb,hg,hnc,hcm,hcs,htake⟩
  · exact ⟨none,0,rfl,Nat.le_refl _,by simp [maxLen],hl,fun h=>absurd h (by omega)⟩
  · refine ⟨_,_,rfl,hnc,hcm,hl,fun _=>⟨g,0,rfl,(Array.getElem?_eq_some_iff.1 hg).1,fun j hj u hu=>?_⟩⟩;rw [Nat.zero_add,h0.cellAt j (by omega)];exact hu
theorem Rd.of_block {w w' : World} {A : Option Addr} {n : Nat} {xs : List Value} (h : Rd w A n xs) (hk : ∀ g,g < w.heap.size → w'.heap[g]? = w.heap[g]?) : Rd w' A n xs:=by
  refine ⟨h.1,fun hn=>?_⟩;obtain ⟨g,o,rfl,hg,hc⟩:=h.2 hn;have e:=hk g hg
  have hs : g < w'.heap.size:=by
    rcases Nat.lt_or_ge g w'.heap.size with h' | h'
    · exact h'
    · rw [Array.getElem?_eq_none h',Array.getElem?_eq_getElem hg] at e; cases e
  exact ⟨g,o,rfl,hs,fun j hj u hu=>(World.cell?_of_block e).trans (hc j hj u hu)⟩
theorem Rd.below {w w' : World} {A : Option Addr} {n : Nat} {xs : List Value} (h : Rd w A n xs) (hb : Below w.heap.size w w') : Rd w' A n xs:=h.of_block hb.block
theorem Rd.drewN {w : World} {A : Option Addr} {n : Nat} {xs : List Value} (h : Rd w A n xs) (k : Nat) : Rd (w.drewN k) A n xs:=h
theorem aR {w w' : World} (h : Below w.heap.size w w') (row : Option Nat) : w.grownBy w' row:=⟨h.os,h.tape,h.output,h.size,fun k hk _=>h.block k hk⟩
theorem aA {a b c : World} {row : Option Nat} (h : a.grownBy b row) (k : b.grownBy c row) : a.grownBy c row:=
  ⟨k.os.trans h.os,k.tape.trans h.tape,k.output.trans h.output,Nat.le_trans h.size k.size,fun i hi hne=>(k.block i (Nat.lt_of_lt_of_le hi h.size) hne).trans (h.block i hi hne)⟩
theorem qQ {a b : World} {row : Option Nat} (h : a.grownBy b row) (n : Nat) : a.grownBy (b.drewN n) row:=⟨h.os,h.tape,h.output,h.size,h.block⟩
theorem below_drewN {B : Nat} {a w : World} (h : Below B a w) (n : Nat) : Below B a (w.drewN n):=h.trans ⟨rfl,rfl,rfl,Nat.le_refl _,fun _ _=>rfl⟩
theorem Mf {n : Int} (h : (Lit.int .i64 n).wf = true) : -9223372036854775808 ≤ n ∧ n ≤ 9223372036854775807:=by
  have e1 : IntKind.i64.min = -9223372036854775808:=rfl;have e2 : IntKind.i64.max = 9223372036854775807:=rfl;simp [Lit.wf,e1,e2] at h;exact h
theorem ay {w w' : World} {B g : Nat} (h : Below B w w') (hg : B ≤ g) (c : Array Value) : Below B w (w'.setRow g c):=by
  refine ⟨h.os,h.tape,h.output,by simpa [World.setRow] using h.size,fun k hk=>?_⟩;rw [← h.block k hk];simp only [World.setRow,Array.getElem?_modify];rw [if_neg (by omega)]
theorem aI {w : World} {g : Nat} {c c0 : Array Value} {t : TypeId} (h : w.heap[g]? = some (.cells c0 t (0,0))) : (w.setRow g c).heap[g]? = some (.cells c t (0,0)):=by
  simp only [World.setRow,Array.getElem?_modify,if_true];rw [h];rfl
theorem eX {B : Nat} {w w' : World} (h : Below B w w') {g : Nat} (hg : g < B) {o : Obj} (he : w.heap[g]? = some o) : w'.heap[g]? = some o:=(h.block g hg).trans he
end
namespace draw
open Go.ChangeShapes Go.WideShapes Go.ChangeAt Go.RowKit
theorem Mg (x : Int) (m : Nat) (hm : m < 4611686018427387904) : 0 ≤ bits .and .i64 x (m : Int) ∧ bits .and .i64 x (m : Int) ≤ (m : Int):=by
  have h1 : ((BitVec.ofInt 64 x) &&& (BitVec.ofInt 64 (m : Int))).toNat ≤ m:=by
    rw [BitVec.toNat_and];refine Nat.le_trans Nat.and_le_right ?_;rw [BitVec.toNat_ofInt];omega
  have h2 : bits .and .i64 x (m : Int) = (((BitVec.ofInt 64 x) &&& (BitVec.ofInt 64 (m : Int))).toNat : Int):=by
    show IntKind.i64.wrap (((BitVec.ofInt 64 x) &&& (BitVec.ofInt 64 (m : Int))).toNat : Int) = _;exact IntWalk.i64_in _ (by omega)
  rw [h2];omega
def Code (w : World) (c : Nat) (A : Option Addr) (len : Nat) (z : Nat → Int) : Prop:=
  len ≤ 1048576 ∧ (0 < len → ∃ g o,A = some ⟨g,o,none⟩ ∧ g < c ∧ ∀ j,j < len → 0 ≤ z j ∧ z j < 256 ∧ w.cell? ⟨g,o + j,none⟩ = some (.int .u8 (z j)))
def jJ (w : World) (c : Nat) (A : Option Addr) (len cap : Nat) (z : Nat → Int) : Prop:=
  (∃ (i : Nat) (h : Int),i ≤ len ∧ w.heap[c]? = some (.cells #[.slice A len cap,.int .i64 (i : Int),.int .i64 h] 111 (0,0))) ∧ Code w c A len z
theorem Code.block {w w' : World} {c : Nat} {A : Option Addr} {len : Nat} {z : Nat → Int} (h : Code w c A len z) (hk : ∀ g,g < c → w'.heap[g]? = w.heap[g]?) : Code w' c A len z:=by
  refine ⟨h.1,fun hl=>?_⟩;obtain ⟨g,o,rfl,hg,hz⟩:=h.2 hl;exact ⟨g,o,rfl,hg,fun j hj=>⟨(hz j hj).1,(hz j hj).2.1,(World.cell?_of_block (hk g hg)).trans (hz j hj).2.2⟩⟩
theorem jJ.lt {w : World} {c : Nat} {A : Option Addr} {len cap : Nat} {z : Nat → Int} (h : jJ w c A len cap z) : c < w.heap.size:=by
  obtain ⟨⟨i,q,_,hc⟩,_⟩:=h;exact (Array.getElem?_eq_some_iff.1 hc).1
theorem jJ.below {w w' : World} {c : Nat} {A : Option Addr} {len cap : Nat} {z : Nat → Int} {B : Nat} (h : jJ w c A len cap z) (hb : Below B w w') (hB : c < B) : jJ w' c A len cap z:=by
  obtain ⟨⟨i,q,h1,hc⟩,hz⟩:=h;exact ⟨⟨i,q,h1,by rw [hb.block c hB]; exact hc⟩,hz.block fun g hg=>hb.block g (by omega)⟩
def Got (P : Int → Prop) (c : Nat) (A : Option Addr) (len cap : Nat) (z : Nat → Int) (w : World) (e : Ending) (w' : World) : Prop:=
  ∃ x : Int,P x ∧ e = .returned (.int .i64 x) ∧ jJ w' c A len cap z ∧ w.grownBy w' (some c)
theorem BD {w : World} {c : Nat} {x0 x1 x2 : Value} {t : TypeId} (h : w.heap[c]? = some (.cells #[x0,x1,x2] t (0,0))) :
    w.cell? ⟨c,0,none⟩ = some x0 ∧ w.cell? ⟨c,1,none⟩ = some x1 ∧ w.cell? ⟨c,2,none⟩ = some x2 ∧ ∀ j,w.frozen? ⟨c,j,none⟩ = false:=by
  refine ⟨?_,?_,?_,fun j=>frozen_of_row w c j _ t h⟩
  · rw [cell_of_row w c 0 _ t (0,0) h]; rfl
  · rw [cell_of_row w c 1 _ t (0,0) h]; rfl
  · rw [cell_of_row w c 2 _ t (0,0) h]; rfl
theorem tO (w : World) (c j : Nat) (v : Value) : w.grownBy (w.setCell ⟨c,j,none⟩ v) (some c):=
  ⟨rfl,rfl,rfl,by simp [World.setCell],fun k _ hk=>Below.heap_setCell _ _ _ _ (fun e=>hk (by rw [e]))⟩
theorem qR (c : Nat) (A : Option Addr) (len cap : Nat) (z : Nat → Int) (w : World) (hc : jJ w c A len cap z) :
    Calls Tryz.prog 146 #[.pointer (some ⟨c,0,none⟩)] w (Got (fun x=>0 ≤ x ∧ x < 256) c A len cap z w):=by
  obtain ⟨⟨i,h,hi1,hrow⟩,hcode⟩:=hc;have hlen:=hcode.1;obtain ⟨c0,c1,c2,cf⟩:=BD hrow;have f1:=cf 1;have f2:=cf 2;have pK:=Lib.hid hrow;have tQ:=Lib.hid hcode;clear cf hrow hcode;go_enter Tryz.func146,Tryz.ntmps146;go_wp2_with fail;generalize wrap64 (wrap64 (h * 6364136223846793005) + 1442695040888963407) = h1;have xJ:=heap_setCell_same w c 2 _ _ (.int .i64 h1) pK.out;have GR:=tQ.out.block (w':=w.setCell ⟨c,2,none⟩ (.int .i64 h1)) (fun g hg=>Below.heap_setCell _ _ _ _ (by show g ≠ c; omega));have VJ:=tO w c 2 (.int .i64 h1);simp only [List.setIfInBounds_toArray,List.set_cons_succ,List.set_cons_zero] at xJ;generalize w.setCell ⟨c,2,none⟩ (.int .i64 h1) = w1 at xJ GR VJ ⊢;clear c0 c1 c2 f1 f2 pK tQ;obtain ⟨c0,c1,c2,cf⟩:=BD xJ;have f1:=cf 1;have pK:=Lib.hid xJ;have tQ:=Lib.hid GR;have nI:=Lib.hid VJ;clear cf xJ GR VJ
  go_quiet (fail)
  go_wp2_with fail;have hx:=Mg (bits .xor .i64 (h1 / 8589934592) (h1 / 35184372088832)) 255 (by decide);generalize bits .and .i64 (bits .xor .i64 (h1 / 8589934592) (h1 / 35184372088832)) 255 = x at hx ⊢;generalize bits .xor .i64 (h1 / 8589934592) (h1 / 35184372088832) = y;generalize h1 / 8589934592 = y1;generalize h1 / 35184372088832 = y2;have hx0 : 0 ≤ x ∧ x ≤ 255:=hx;clear hx;by_cases hlt : i < len
  · obtain ⟨g,o,rfl,hg,hz⟩:=tQ.out.2 (by omega);obtain ⟨z0,z1,hcell⟩:=hz i hlt;clear hz
    go_quiet (fail)
    go_wp2_with fail
    go_quiet (fail)
    go_wp2_with fail;have hy:=Mg (x + z i) 255 (by decide)
    have hy0 : 0 ≤ bits .and .i64 (x + z i) 255 ∧ bits .and .i64 (x + z i) 255 < 256:=by
      have : bits .and .i64 (x + z i) 255 ≤ 255:=hy.2;exact ⟨hy.1,by omega⟩
    go_ret;refine ⟨_,hy0,rfl,⟨⟨i + 1,h1,by omega,?_⟩,?_⟩,?_⟩
    · have e:=heap_setCell_same w1 c 1 _ _ (.int .i64 ((i : Int) + 1)) pK.out;simp only [List.setIfInBounds_toArray,List.set_cons_succ,List.set_cons_zero] at e;exact e
    · exact tQ.out.block fun g hg=>Below.heap_setCell w1 ⟨c,1,none⟩ _ g (by show g ≠ c; omega)
    · exact aA (qQ nI.out _) (tO _ c 1 _)
  · go_quiet (fail)
    go_wp2_with fail;go_ret;exact ⟨x,⟨by omega,by omega⟩,rfl,⟨⟨i,h1,hi1,pK.out⟩,tQ.out⟩,qQ (qQ nI.out _) _⟩
theorem Tc {x : Int} (h : (Lit.int .u8 x).wf = true) : 0 ≤ x ∧ x < 256:=by
  have e1 : IntKind.u8.min = 0:=rfl;have e2 : IntKind.u8.max = 255:=rfl;simp [Lit.wf,e1,e2] at h;omega
set_option maxRecDepth 100000 in
theorem Jg (A : Option Addr) (len cap : Nat) (zs : List Int) (w : World) (hr : qo .u8 w A len cap zs) (hlen : len ≤ 1048576) :
    Calls Tryz.prog 30 #[.slice A len cap] w fun e w'=>∃ c,e = .returned (.pointer (some ⟨c,0,none⟩)) ∧ w.heap.size ≤ c ∧ jJ w' c A len cap (fun j=>zs.getD j 0) ∧ Below w.heap.size w w':=by
  have hcode : Code w w.heap.size A len (fun j=>zs.getD j 0):=⟨hlen,fun hl=>by
    obtain ⟨g,o,rfl,hg,hz⟩:=hr.at_ hl;exact ⟨g,o,rfl,hg,fun j hj=>⟨(Tc (hz j hj).1).1,(Tc (hz j hj).1).2,(hz j hj).2⟩⟩⟩
  generalize (fun j=>zs.getD j 0) = z at hcode ⊢;have tQ:=Lib.hid hcode;clear hcode hr;go_enter Tryz.func30,Tryz.ntmps30;go_wp2_with fail;go_loop [3,4] (fun a i=>∃ (k : Nat) (h : Int),k ≤ len ∧ i = .int .i64 k ∧ a = .int .i64 h) (fun _ i=>len - (intOf i).toNat)
  case atStart=>exact ⟨0,_,Nat.zero_le _,rfl,rfl⟩
  case round=>
    obtain ⟨k,h,hk,rfl,rfl⟩:=hrel;by_cases hlt : k < len
    · obtain ⟨g,o,rfl,hg,hz⟩:=tQ.out.2 (by omega);obtain ⟨z0,z1,hcell⟩:=hz k hlt;clear hz;by_cases h4 : k < 4000
      · go_wp2_with fail;go_round
        case rel=>exact ⟨k + 1,_,by omega,by go_num,rfl⟩
        case measure=>simp [intOf]; omega
      · go_wp2_with fail;go_ret;refine ⟨w.heap.size,rfl,Nat.le_refl _,⟨⟨0,h,Nat.zero_le _,heap_alloc_new w _⟩,tQ.out.block fun g hg=>Below.heap_alloc w _ g hg⟩,(Below.refl _ _).alloc (Nat.le_refl _) _⟩
    · go_wp2_with fail;go_ret;refine ⟨w.heap.size,rfl,Nat.le_refl _,⟨⟨0,h,Nat.zero_le _,heap_alloc_new w _⟩,tQ.out.block fun g hg=>Below.heap_alloc w _ g hg⟩,(Below.refl _ _).alloc (Nat.le_refl _) _⟩
theorem Mh (x n : Int) (hn : 0 < n) : 0 ≤ x % n ∧ x % n < n:=⟨Int.emod_nonneg _ (by omega),Int.emod_lt_of_pos _ hn⟩
theorem bM (c : Nat) (A : Option Addr) (len cap : Nat) (z : Nat → Int) (n : Int) (w : World) (hc : jJ w c A len cap z) (h0 : 0 < n) (h1 : n ≤ 9223372036854775807) :
    Calls Tryz.prog 83 #[.pointer (some ⟨c,0,none⟩),.int .i64 n] w (Got (fun x=>0 ≤ x ∧ x < n) c A len cap z w):=by
  have Hc:=Lib.hid hc;clear hc;by_cases h2 : n ≤ 256
  · go_enter Tryz.func83,Tryz.ntmps83;go_wp2_with fail;refine (qR c A len cap z _ Hc.out).mono ?_;rintro e w1 ⟨x,hx,rfl,hc1,hg1⟩;have GQ:=Lib.hid hc1;have PG:=Lib.hid hg1;have Hm:=Lib.hid (Mh x n h0);clear hc1 hg1;go_wp2_with fail;go_ret;exact ⟨_,Hm.out,rfl,GQ.out,PG.out⟩
  · go_enter Tryz.func83,Tryz.ntmps83;go_wp2_with fail;refine (qR c A len cap z _ Hc.out).mono ?_;rintro e w1 ⟨x,hx,rfl,hc1,hg1⟩;go_wp2_with fail;refine (qR c A len cap z _ hc1).mono ?_;rintro e w2 ⟨y,hy,rfl,hc2,hg2⟩;go_wp2_with fail;refine (qR c A len cap z _ hc2).mono ?_;rintro e w3 ⟨t,ht,rfl,hc3,hg3⟩;go_wp2_with fail;refine (qR c A len cap z _ hc3).mono ?_;rintro e w4 ⟨u,hu,rfl,hc4,hg4⟩;have Hc4:=Lib.hid hc4;have XQ:=Lib.hid (aA hg1 (aA hg2 (aA hg3 hg4)));have Hm:=Lib.hid (Mh (x * 16777216 + y * 65536 + t * 256 + u) n h0);clear hc1 hc2 hc3 hc4 hg1 hg2 hg3 hg4;go_wp2_with fail;go_ret;exact ⟨_,Hm.out,rfl,Hc4.out,XQ.out⟩
theorem dD {w : World} {c : Nat} {A : Option Addr} {len cap : Nat} {z : Nat → Int} (h : jJ w c A len cap z) (o : Obj) : jJ (w.alloc o) c A len cap z:=
  h.below ((Below.refl (c + 1) w).alloc h.lt o) (Nat.lt_succ_self c)
theorem bX (w : World) (o : Obj) (row : Option Nat) : w.grownBy (w.alloc o) row:=
  aR ((Below.refl _ _).alloc (Nat.le_refl _) o) row
theorem aK {a b d : World} {row : Option Nat} (h : a.grownBy b row) (k : Below a.heap.size b d) : a.grownBy d row:=
  ⟨k.os.trans h.os,k.tape.trans h.tape,k.output.trans h.output,Nat.le_trans h.size k.size,fun i hi hne=>(k.block i hi).trans (h.block i hi hne)⟩
end draw
namespace draw
open Go.ChangeShapes Go.WideShapes Go.ChangeAt Go.RowKit
def I64 (x : Int) : Prop:=-9223372036854775808 ≤ x ∧ x ≤ 9223372036854775807
theorem lM (c : Nat) (A : Option Addr) (len cap : Nat) (z : Nat → Int) (g n cp : Nat) (l : List Int) (w : World) (hc : jJ w c A len cap z) (h0 : 0 < n) (h1 : n ≤ 1000) (hl : l.length = n)
    (hg : c < g) (hrow : w.heap[g]? = some (.cells (iP l).toArray 3 (0,0))) :
    Calls Tryz.prog 86 #[.pointer (some ⟨c,0,none⟩),.slice (some ⟨g,0,none⟩) n cp] w (Got (fun x=>x ∈ l) c A len cap z w):=by
  have HB:=Lib.hid (bM c A len cap z n w hc (by omega) (by omega));have pK:=Lib.hid hrow;have Hl:=Lib.hid hl;clear hc hrow hl;go_enter Tryz.func86,Tryz.ntmps86;go_wp2_with fail;refine HB.out.mono ?_;rintro e w1 ⟨x,hx,rfl,hc1,hg1⟩;obtain ⟨j,rfl⟩:=Int.eq_ofNat_of_zero_le hx.1;have hj : j < n:=(by omega);have hjl : j < l.length:=(by have:=Hl.out; omega);have mq : g < w.heap.size:=(Array.getElem?_eq_some_iff.1 pK.out).1;have xJ : w1.heap[g]? = some (.cells (iP l).toArray 3 (0,0)):=(by rw [hg1.block g mq (by intro e; injection e with e; omega)]; exact pK.out)
  have hcell : w1.cell? ⟨g,j,none⟩ = some (.int .i64 (l.getD j 0)):=by
    rw [cell_of_row w1 g j _ 3 (0,0) xJ];have:=uF l j hjl;simpa using this
  have hmem : Hid (l.getD j 0 ∈ l):=by
    unfold Hid;rw [List.getD_eq_getElem?_getD,List.getElem?_eq_getElem hjl];exact List.getElem_mem hjl
  have GQ:=Lib.hid hc1;have PG:=Lib.hid hg1;clear xJ hc1 hg1 hjl mq HB;generalize l.getD j 0 = x at hcell hmem;go_wp2_with fail;go_ret;exact ⟨x,hmem.out,rfl,GQ.out,PG.out⟩
end draw
namespace draw
open Go.ChangeShapes Go.WideShapes Go.ChangeAt Go.RowKit
def aa3 (c : Nat) (A : Option Addr) (len cap : Nat) (z : Nat → Int) (w : World) (e : Ending) (w' : World) : Prop:=
  ∃ b : Bool,e = .returned (.bool b) ∧ jJ w' c A len cap z ∧ w.grownBy w' (some c)
theorem iQ (c : Nat) (A : Option Addr) (len cap : Nat) (z : Nat → Int) (n : Int) (w : World) (hc : jJ w c A len cap z) (h0 : 0 < n) (h1 : n ≤ 9223372036854775807) :
    Calls Tryz.prog 142 #[.pointer (some ⟨c,0,none⟩),.int .i64 n] w (aa3 c A len cap z w):=by
  have HB:=Lib.hid (bM c A len cap z n w hc h0 h1);clear hc;go_enter Tryz.func142,Tryz.ntmps142;go_wp2_with fail;refine HB.out.mono ?_;rintro e w1 ⟨x,hx,rfl,hc1,hg1⟩;have GQ:=Lib.hid hc1;have PG:=Lib.hid hg1;clear hc1 hg1 HB hx;go_wp2_with fail;go_ret;exact ⟨_,rfl,GQ.out,PG.out⟩
end draw
namespace draw
open Go.ChangeShapes Go.WideShapes Go.ChangeAt Go.RowKit
def Ki (P : ByteArray → Prop) (c : Nat) (A : Option Addr) (len cap : Nat) (z : Nat → Int) (w : World) (e : Ending) (w' : World) : Prop:=
  ∃ x : ByteArray,P x ∧ e = .returned (.string x) ∧ jJ w' c A len cap z ∧ w.grownBy w' (some c)
theorem Mi {w w' : World} {B c : Nat} {e : TypeId} {v : Value} {n : Nat} {xs : List Value} (h : w.ownsRow B e 1 v n xs) (hB : c < B) (hg : w.grownBy w' (some c)) : w'.ownsRow B e 1 v n xs:=
  h.kept hg (by
    cases hv : v.ownBlock with
    | none=>exact .inl rfl
    | some k=>exact .inr (fun e=>by
        have:=(h.lt k hv).1;injection e with e;omega))
theorem jT (c : Nat) (A : Option Addr) (len cap : Nat) (z : Nat → Int) (B n : Nat) (v : Value) (l : List ByteArray) (w : World) (hc : jJ w c A len cap z) (h0 : 0 < n) (h1 : n ≤ 1000) (hl : l.length = n)
    (hB : c < B) (hown : w.ownsRow B 9 1 v n (aT l)) :
    Calls Tryz.prog 145 #[.pointer (some ⟨c,0,none⟩),v] w (Ki (fun x=>x ∈ l) c A len cap z w):=by
  have HB:=Lib.hid (bM c A len cap z n w hc (by omega) (by omega));have Td:=Lib.hid (fun w' hg=>Mi (w':=w') hown hB hg);rcases hown.2 with ⟨rfl,hn⟩ | ⟨g,cp,cur,rfl,hb,hg,hnc,hcm,hcs,htake⟩
  · omega
  clear hb hg hnc hcm hcs htake hc hown;have Hl:=Lib.hid hl;clear hl;go_enter Tryz.func145,Tryz.ntmps145;go_wp2_with fail;refine HB.out.mono ?_;rintro e w1 ⟨x,hx,rfl,hc1,hg1⟩;obtain ⟨j,rfl⟩:=Int.eq_ofNat_of_zero_le hx.1;have hj : j < n:=(by omega);have hjl : j < l.length:=(by have:=Hl.out; omega)
  have hcell : w1.cell? ⟨g,j,none⟩ = some (.string (l.getD j ⟨#[]⟩)):=by
    have h1:=(Td.out w1 hg1).cellAt j (by omega);rw [h1,bV l j hjl];simp [List.getD,hjl]
  have hmem : Hid (l.getD j ⟨#[]⟩ ∈ l):=by
    unfold Hid;rw [List.getD_eq_getElem?_getD,List.getElem?_eq_getElem hjl];exact List.getElem_mem hjl
  have GQ:=Lib.hid hc1;have PG:=Lib.hid hg1;clear hc1 hg1 hjl HB Td;generalize l.getD j ⟨#[]⟩ = x at hcell hmem;go_wp2_with fail;go_ret;exact ⟨x,hmem.out,rfl,GQ.out,PG.out⟩
end draw
namespace draw
open Go.ChangeShapes Go.WideShapes Go.ChangeAt Go.RowKit
def yG : List ByteArray:=[⟨#[122,111,110,101]⟩,⟨#[100,105,115,107]⟩,⟨#[97,112,112]⟩,⟨#[116,105,101,114]⟩,⟨#[97,46,98,47,99]⟩,⟨#[90,111,110,101]⟩]
theorem Df : ∀ x ∈ yG,x.size ≤ 5:=by decide
set_option maxRecDepth 100000 in
theorem mO (c : Nat) (A : Option Addr) (len cap : Nat) (z : Nat → Int) (w : World) (hc : jJ w c A len cap z) :
    Calls Tryz.prog 148 #[.pointer (some ⟨c,0,none⟩)] w (Ki (fun x=>x.size ≤ 5) c A len cap z w):=by
  have HP:=Lib.hid (jT c A len cap z w.heap.size 6 (.slice (some ⟨w.heap.size,0,none⟩) 6 6) yG _ (dD hc (.cells (aT yG).toArray 9)) (by decide) (by decide) rfl hc.lt (World.ownsRow_lit w (aT yG).toArray 6 (Nat.le_refl _) (by simp [maxLen]) rfl));clear hc;go_enter Tryz.func148,Tryz.ntmps148;go_wp2_with fail;refine HP.out.mono ?_;rintro e w3 ⟨t,ht,rfl,hc3,hg3⟩;have XR:=Lib.hid (Df t ht);have XT:=Lib.hid (aA (bX _ _ _) hg3);have XU:=Lib.hid hc3;clear HP hg3 hc3 ht;go_wp2_with fail;go_ret;exact ⟨t,XR.out,rfl,XU.out,XT.out⟩
def yH : List ByteArray:=[⟨#[97]⟩,⟨#[98]⟩,⟨#[99]⟩,⟨#[]⟩,⟨#[115,115,100]⟩,⟨#[118,49,46,50]⟩]
theorem Dh : ∀ x ∈ yH,x.size ≤ 4:=by decide
set_option maxRecDepth 100000 in
theorem mP (c : Nat) (A : Option Addr) (len cap : Nat) (z : Nat → Int) (w : World) (hc : jJ w c A len cap z) :
    Calls Tryz.prog 149 #[.pointer (some ⟨c,0,none⟩)] w (Ki (fun x=>x.size ≤ 4) c A len cap z w):=by
  have HP:=Lib.hid (jT c A len cap z w.heap.size 6 (.slice (some ⟨w.heap.size,0,none⟩) 6 6) yH _ (dD hc (.cells (aT yH).toArray 9)) (by decide) (by decide) rfl hc.lt (World.ownsRow_lit w (aT yH).toArray 6 (Nat.le_refl _) (by simp [maxLen]) rfl));clear hc;go_enter Tryz.func149,Tryz.ntmps149;go_wp2_with fail;refine HP.out.mono ?_;rintro e w3 ⟨t,ht,rfl,hc3,hg3⟩;have XR:=Lib.hid (Dh t ht);have XT:=Lib.hid (aA (bX _ _ _) hg3);have XU:=Lib.hid hc3;clear HP hg3 hc3 ht;go_wp2_with fail;go_ret;exact ⟨t,XR.out,rfl,XU.out,XT.out⟩
end draw
namespace lawMark
open Go Go.RowKit
def dg : Nat → Nat → List UInt8 → List UInt8
  | 0,_,acc=>acc
  | f + 1,m,acc=>if m = 0 then acc else dg f (m / 10) (UInt8.ofNat (48 + m % 10) :: acc)
def mt (m : Int) : ByteArray:=if m ≤ 0 then ⟨#[109,48]⟩ else ⟨(109 :: dg m.toNat m.toNat []).toArray⟩
end lawMark
namespace lab
open Go Go.RowKit
def uG (b : Int) : Bool:=(decide (97 ≤ b) && decide (b ≤ 122)) || (decide (65 ≤ b) && decide (b ≤ 90)) || (decide (48 ≤ b) && decide (b ≤ 57))
def qp (b : Int) : Bool:=(uG b && !(decide (65 ≤ b) && decide (b ≤ 90))) || b == 45
structure nL (s : ByteArray) : Prop where
  lo : 1 ≤ s.size
  hi : s.size ≤ 20
  fst : at_ s 0 ≠ 45
  lst : at_ s (s.size - 1) ≠ 45
  all : ∀ i,i < s.size → qp (at_ s i) = true
def acc (o : ByteArray) (b : Int) (k : Nat) : Bool:=uG b || (List.range k).any (fun j=>b == at_ o j)
theorem Mj (o : ByteArray) (b : Int) : acc o b 0 = uG b:=by simp [acc]
theorem Mk (o : ByteArray) (b : Int) (k : Nat) : acc o b (k + 1) = (acc o b k || (b == at_ o k)):=by
  unfold acc;rw [List.range_succ,List.any_append,← Bool.or_assoc];simp
def tT (o : ByteArray) (b : Int) : Bool:=acc o b o.size
structure oL (o s : ByteArray) : Prop where
  lo : 1 ≤ s.size
  fst : uG (at_ s 0) = true
  lst : uG (at_ s (s.size - 1)) = true
  all : ∀ i,i < s.size → tT o (at_ s i) = true
def Di : ByteArray:=⟨#[45,95,46,47]⟩
def Dj : ByteArray:=⟨#[45,95,46]⟩
def gP (s : ByteArray) : Prop:=s.size ≤ 30 ∧ oL Di s
def gG (s : ByteArray) : Prop:=s.size = 0 ∨ (s.size ≤ 20 ∧ oL Dj s)
open Classical in
noncomputable def yes (p : Prop) : Bool:=if p then true else false
theorem aQ {p : Prop} (h : p) : yes p = true:=by unfold yes; rw [if_pos h]
theorem aP {p : Prop} (h : ¬ p) : yes p = false:=by unfold yes; rw [if_neg h]
end lab
namespace lab
open Go Go.RowKit
theorem TryzinfoLab : (Tryz.prog.info? 65).map (fun i=>(i.zero,i.size,i.bytes)) = some (some (.agg #[.string ⟨#[]⟩,.string ⟨#[]⟩]),2,32):=by kernel_rfl
end lab
namespace lab
open Go.ChangeShapes Go.WideShapes Go.ChangeAt Go.RowKit
theorem dU {w wr : World} (h : ∃ n,wr = w.drewN n) (m : Nat) : ∃ n,wr.drewN m = w.drewN n:=by
  obtain ⟨n,rfl⟩:=h;exact ⟨n + m,by simp⟩
end lab
end Go.Proofs.YtcfbkfmkjggcdaaGreatDoor
