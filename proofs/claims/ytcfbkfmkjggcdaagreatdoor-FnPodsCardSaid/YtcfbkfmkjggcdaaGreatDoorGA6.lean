/- Merged: AppE DrawF DrawX DrawP TyLabel LabM FlatLab LabQ LawL RdNew LabS. -/
import Derived.Test.YtcfbkfmkjggcdaaGreatDoorGA4
import Derived.Test.YtcfbkfmkjggcdaaGreatDoorGA5
import Derived.Test.YtcfbkfmkjggcdaaGreatDoorGA0
import Derived.Deep.WholeRow
import Derived.ProofKit
import Derived.Deep.RegionLaw
import Derived.Test.YtcfbkfmkjggcdaaGreatDoorGA1
import Derived.Laws.Cover1
set_option linter.unusedVariables false
namespace Go.Proofs.YtcfbkfmkjggcdaaGreatDoor
section
open Go Go.RowKit
theorem bW {P : Program} {w : World} {ops : Array Oper} {rest : List Oper} {o : Oper} {a : Act} {Q : Exit → Act → World → Prop} (hgd : o.guard = none) (s x : Operand) (t : TypeId)
    (ho : o.op = .call { callee:=.builtin .append,args:=#[s,x],argTypes:=#[t,t] })
    (base : Nat) (e e0 : TypeId) (i : TypeInfo) (z : Value) (size bytes : Nat) (ht : P.underlying t = some (.slice e)) (hi : P.info? e = some i) (hz : i.zero = some z)
    (hsize : i.size = size) (hby : i.bytes = bytes) (hzs : z.cells.size = size) (hsz : 0 < size)
    (v : Value) (n : Nat) (xs : List Value) (hs : a.eval s = v) (hown : w.ownsRow base e0 size v n xs)
    (g m c : Nat) (news : List Value) (hx : a.eval x = .slice (some ⟨g,0,none⟩) m c) (hr : jI w (some ⟨g,0,none⟩) m size news) (hm : 0 < m) (h1 : ∀ u ∈ news,u.oneCell' = true)
    (h63 : n + m ≤ maxLen) (hbytes : (n + m) * bytes ≤ 140737488355328) (hbase : base ≤ w.heap.size)
    (h : ∀ v' w' e1,w'.ownsRow base e1 size v' (n + m) (xs ++ news) → w.grownBy w' v.ownBlock → (v'.ownBlock = v.ownBlock ∨ v'.ownBlock = some w.heap.size) → wpList P ops Q rest (a.put o.dst v') w') :
    wpList P ops Q (o :: rest) a w:=by
  refine wpList_plain hgd fun K hK=>?_;obtain ⟨g',o',hA,_,hc⟩:=hr.2 hm;injection hA with hA;injection hA with e1 e2;subst e1 e2;obtain ⟨v',w',e1,hr',h2,h3,h5⟩:=qw (P:=P) w base t o.type e e0 i z size bytes ht hi hz hsize hby hzs hsz v n xs hown ⟨g,0,none⟩ m c news hr.1 (fun j u hu=>by rw [Addr.add_lit]; exact hc j u hu) h1 h63 hbytes hbase;unfold Oper.wp execOp;simp only [ho,resolve,invoke,builtin,Sem.run_bind,Sem.run_pure,Result.andThen_ok,List.map_toArray,List.map_cons,List.map_nil,hs,hx,hr'];exact hK _ _ (h v' w' e1 h2 h3 h5)
end
namespace draw
open Go Go.RowKit
section
variable {α : Type} {enc : α → List Value} {row : α → List C} {k : Nat}
def MB (k : Nat) (row : α → List C) (P : List α → Prop) (c : Nat) (A : Option Addr) (len cap : Nat) (z : Nat → Int) (w : World) (e : Ending) (w' : World) : Prop:=
  ∃ (l : List α) (v : Value) (f : Nat) (F : List Nat),P l ∧ e = .returned v ∧ Own w' w.heap.size (f + 1) v (.sl k l.length (l.flatMap row)) F ∧ F.Nodup ∧ jJ w' c A len cap z ∧ w.grownBy w' (some c)
theorem q9 {w w' : World} {c B f : Nat} {v : Value} {d : C} {F : List Nat} (h : Own w B f v d F) (hB : c < B) (hg : w.grownBy w' (some c)) : Own w' B f v d F:=
  h.kept fun x hx=>hg.block x (h.range x hx).2 (fun e=>by have:=(h.range x hx).1; injection e with e; omega)
theorem za {w w' : World} {B c k : Nat} {e : TypeId} {v : Value} {n : Nat} {xs : List Value} (h : w.ownsRow B e k v n xs) (hB : c < B) (hg : w.grownBy w' (some c)) : w'.ownsRow B e k v n xs:=
  h.kept hg (by
    cases hv : v.ownBlock with
    | none=>exact .inl rfl
    | some q=>exact .inr (fun e=>by
        have:=(h.lt q hv).1;injection e with e;omega))
theorem VP {w : World} {g : Nat} {e : TypeId} {xs : List Value} (h : w.heap[g]? = some (.cells xs.toArray e (0,0))) (hx : xs.length = k) : jI w (some ⟨g,0,none⟩) 1 k xs:=by
  refine ⟨by omega,fun _=>⟨g,0,rfl,aX h,fun j u hu=>?_⟩⟩;rw [Nat.zero_add,cell_of_row _ _ _ _ _ _ h];simpa using hu
theorem sI (w : World) (e : TypeId) (xs : List Value) (hx : xs.length = k) : jI (w.alloc (.cells xs.toArray e)) (some ⟨w.heap.size,0,none⟩) 1 k xs:=VP (heap_alloc_new w _) hx
theorem MC (hr : ∀ x,(row x).length = k) (he : ∀ x,(enc x).length = k) (hfl : ∀ (w : World) (f : Nat) (x : α) (j : Nat) (d : C) (u : Value),(row x)[j]? = some d → bf w f u d → (enc x)[j]? = some u)
    {w : World} {B f : Nat} {v : Value} {l : List α} {F : List Nat} (t0 : TypeId) (h : Own w B (f + 1) v (.sl k l.length (l.flatMap row)) F) : ∃ e,w.ownsRow B e k v l.length (l.flatMap enc):=by
  obtain ⟨hl,⟨rfl,hn,rfl⟩ | ⟨g,c,cur,e,Fs,rfl,h1,h2,h3,h4,hz,hF,h5,h6⟩⟩:=h
  · have : l = []:=List.eq_nil_of_length_eq_zero hn;subst this;exact ⟨t0,World.ownsRow_nil _ _ _ _⟩
  · refine ⟨e,aM he l,.inr ⟨g,c,cur,rfl,h3,h4,h1,h2,hz,?_⟩⟩;refine List.ext_getElem? fun m=>?_;by_cases hm : m < l.length * k
    · rw [List.getElem?_take_of_lt hm];have hd : m < (l.flatMap row).length:=(by rw [hl]; exact hm);have hcs : m < cur.size:=(by rw [hz]; exact Nat.lt_of_lt_of_le hm (Nat.mul_le_mul_right _ h1));have hfs : m < Fs.length:=(by rw [h5]; exact hd);obtain ⟨u,hu,ho⟩:=h6 m _ _ (List.getElem?_eq_getElem hd) (List.getElem?_eq_getElem hfs)
      have k0 : 0 < k:=by
                            rcases Nat.eq_zero_or_pos k with h | h; · subst h; simp at hm
                            · exact h
      have hi : m / k < l.length:=(Nat.div_lt_iff_lt_mul k0).2 hm;have e:=Nat.div_add_mod' m k;have r1:=gq hr l (m / k) (m % k) _ (List.getElem?_eq_getElem hi) (Nat.mod_lt _ k0);have r2:=gq he l (m / k) (m % k) _ (List.getElem?_eq_getElem hi) (Nat.mod_lt _ k0);rw [e] at r1 r2;rw [List.getElem?_eq_getElem hd] at r1;rw [r2,hfl _ _ _ _ _ _ r1.symm ho.lies,Array.getElem?_toList];exact hu
    · rw [List.getElem?_eq_none (by rw [List.length_take]; omega),List.getElem?_eq_none (by rw [aM he]; omega)]
structure AV (k : Nat) (enc : α → List Value) (w : World) (c : Nat) (A : Option Addr) (len cap : Nat) (z : Nat → Int) (e0 : TypeId) (v : Value) (l : List α) (a : World) : Prop where
  cur : jJ a c A len cap z
  grown : w.grownBy a (some c)
  row : a.ownsRow w.heap.size e0 k v l.length (l.flatMap enc)
variable {w a b : World} {c : Nat} {A : Option Addr} {len cap : Nat} {z : Nat → Int} {e0 e1 : TypeId} {v : Value} {l : List α}
theorem AV.turn (h : AV k enc w c A len cap z e0 v l a) (hcw : c < w.heap.size) (hc : jJ b c A len cap z) (hg : a.grownBy b (some c)) : AV k enc w c A len cap z e0 v l b:=
  ⟨hc,aA h.grown hg,za h.row hcw hg⟩
theorem AV.below (h : AV k enc w c A len cap z e0 v l a) (hcw : c < w.heap.size) (hb : Below a.heap.size a b) : AV k enc w c A len cap z e0 v l b:=
  ⟨h.cur.below (hb.mono h.grown.size) hcw,draw.aK h.grown (hb.mono h.grown.size),own_below' h.row hb⟩
theorem AV.alloc (h : AV k enc w c A len cap z e0 v l a) (hcw : c < w.heap.size) (o : Obj) : AV k enc w c A len cap z e0 v l (a.alloc o):=
  h.below hcw ((Below.refl _ _).alloc (Nat.le_refl _) o)
theorem AV.more {v7 : Value} {x : α} {o : Obj} (h : AV k enc w c A len cap z e0 v l a) (hcw : c < w.heap.size)
    (hown : b.ownsRow w.heap.size e1 k v7 (l.length + 1) (l.flatMap enc ++ enc x)) (hg : (a.alloc o).grownBy b v.ownBlock) : AV k enc w c A len cap z e1 v7 (l ++ [x]) b:=by
  have nP : Below w.heap.size a b:=Below.grown ((Below.refl w.heap.size a).alloc h.grown.size o) hg (by have:=h.grown.size; simp; omega) (fun b hb=>(h.row.lt b hb).1);exact ⟨h.cur.below nP hcw,draw.aK h.grown nP,by rw [List.flatMap_append,List.length_append,List.flatMap_cons,List.flatMap_nil,List.append_nil]; exact hown⟩
theorem AV.got {Wf : α → Prop} {P : List α → Prop} (hr : ∀ x,(row x).length = k) (hown : ∀ x : α,Wf x → bq a w.heap.size 1 (enc x) (row x) []) (h : AV k enc w c A len cap z e0 v l a) (hP : P l) (ht : ∀ x ∈ l,Wf x) : MB k row P c A len cap z w (.returned v) a:=by
  obtain ⟨F,ho,hn,_⟩:=flt.yS hr hown h.row ht;exact ⟨l,v,1,F,hP,rfl,ho,hn,h.cur,h.grown⟩
theorem AV.ME {f : Nat} {F : List Nat} (hr : ∀ x,(row x).length = k) (he : ∀ x,(enc x).length = k) (hfl : ∀ (w : World) (f : Nat) (x : α) (j : Nat) (d : C) (u : Value),(row x)[j]? = some d → bf w f u d → (enc x)[j]? = some u)
    (t0 : TypeId) (ho : Own a w.heap.size (f + 1) v (.sl k l.length (l.flatMap row)) F) (hc : jJ a c A len cap z) (hg : w.grownBy a (some c)) : ∃ e,AV k enc w c A len cap z e v l a:=by
  obtain ⟨e,h⟩:=MC hr he hfl t0 ho;exact ⟨e,hc,hg,h⟩
end
end draw
namespace draw
open Go Go.RowKit
theorem Jl {n : Int} (h1 : -1 ≤ n) (h2 : n ≤ 6) : (Lit.int .i64 n).wf = true:=by
  have : n = -1 ∨ n = 0 ∨ n = 1 ∨ n = 2 ∨ n = 3 ∨ n = 4 ∨ n = 5 ∨ n = 6:=(by omega);rcases this with rfl | rfl | rfl | rfl | rfl | rfl | rfl | rfl <;> decide
theorem aC.cur {e : TypeId} {a b : World} {c g : Nat} {us : List Value} (h : aC e a g us) (hg : a.grownBy b (some c)) (hne : c ≠ g) : aC e b g us:=
  (hg.block g (aX h) (fun e=>hne (by injection e with e; exact e.symm))).trans h
section
variable {α : Type}
def Km (enc : α → List Value) (P : α → Prop) (c : Nat) (A : Option Addr) (len cap : Nat) (z : Nat → Int) (w : World) (e : Ending) (w' : World) : Prop:=
  ∃ x : α,P x ∧ e = .returned (.agg (enc x).toArray) ∧ jJ w' c A len cap z ∧ w.grownBy w' (some c)
structure vF (w : World) (c : Nat) (A : Option Addr) (len cap : Nat) (z : Nat → Int) (e : TypeId) (zs : List Value) (a : World) : Prop where
  cur : jJ a c A len cap z
  grown : w.grownBy a (some c)
  zero : aC e a w.heap.size zs
structure tC (w : World) (c : Nat) (A : Option Addr) (len cap : Nat) (z : Nat → Int) (e : TypeId) (zs : List Value) (b : Nat) (us : List Value) (a : World) : Prop where
  cur : jJ a c A len cap z
  grown : w.grownBy a (some c)
  zero : aC e a w.heap.size zs
  mine : aC e a b us
variable {w a a' : World} {c : Nat} {A : Option Addr} {len cap : Nat} {z : Nat → Int} {e : TypeId} {zs us : List Value} {b : Nat}
theorem vF.new (hc : jJ w c A len cap z) : vF w c A len cap z e zs (w.alloc (.cells zs.toArray e)):=
  ⟨dD hc _,bX _ _ _,aC.new _ _ _⟩
theorem vF.turn (h : vF w c A len cap z e zs a) (hcw : c < w.heap.size) (hc : jJ a' c A len cap z) (hg : a.grownBy a' (some c)) : vF w c A len cap z e zs a':=
  ⟨hc,aA h.grown hg,aC.cur h.zero hg (by omega)⟩
theorem vF.below (h : vF w c A len cap z e zs a) (hcw : c < w.heap.size) (hb : Below a.heap.size a a') : vF w c A len cap z e zs a':=
  ⟨h.cur.below (hb.mono h.grown.size) hcw,draw.aK h.grown (hb.mono h.grown.size),h.zero.below hb⟩
theorem vF.box (h : vF w c A len cap z e zs a) (hcw : c < w.heap.size) : tC w c A len cap z e zs a.heap.size us (a.alloc (.cells us.toArray e)):=
  let h':=h.below hcw ((Below.refl _ _).alloc (Nat.le_refl _) (.cells us.toArray e))
  ⟨h'.cur,h'.grown,h'.zero,aC.new _ _ _⟩
theorem tC.turn (h : tC w c A len cap z e zs b us a) (hcw : c < w.heap.size) (hb : w.heap.size < b) (hc : jJ a' c A len cap z) (hg : a.grownBy a' (some c)) : tC w c A len cap z e zs b us a':=
  ⟨hc,aA h.grown hg,aC.cur h.zero hg (by omega),aC.cur h.mine hg (by omega)⟩
theorem tC.put (h : tC w c A len cap z e zs b us a) (hcw : c < w.heap.size) (hb : w.heap.size < b) (j : Nat) (v : Value) : tC w c A len cap z e zs b (us.set j v) (a.setCell ⟨b,j,none⟩ v):=
  have hB : Below b a (a.setCell ⟨b,j,none⟩ v):=(Below.refl b a).setCell (Nat.le_refl _) v
  ⟨h.cur.below hB (by omega),draw.aK h.grown (hB.mono (by omega)),aC.other h.zero (by omega),aC.put h.mine j v⟩
theorem vF.done {enc : α → List Value} {P : α → Prop} {x : α} (h : vF w c A len cap z e zs a) (hcw : c < w.heap.size) (hP : P x) : Km enc P c A len cap z w (.returned (.agg (enc x).toArray)) (a.setRow w.heap.size (enc x).toArray):=
  have hb2 : Below w.heap.size a (a.setRow w.heap.size (enc x).toArray):=ay (Below.refl _ _) (Nat.le_refl _) _
  ⟨x,hP,rfl,h.cur.below hb2 hcw,draw.aK h.grown hb2⟩
theorem tC.done {enc : α → List Value} {P : α → Prop} {x : α} (h : tC w c A len cap z e zs b us a) (hcw : c < w.heap.size) (hP : P x) : Km enc P c A len cap z w (.returned (.agg (enc x).toArray)) (a.setRow w.heap.size (enc x).toArray):=
  vF.done (e:=e) (zs:=zs) ⟨h.cur,h.grown,h.zero⟩ hcw hP
end
end draw
namespace draw
open Go Go.RowKit ty
def lZ {α : Type} (row : α → List C) (P : α → Prop) (c : Nat) (A : Option Addr) (len cap : Nat) (z : Nat → Int) (w : World) (e : Ending) (w' : World) : Prop:=
  ∃ (x : α) (us : List Value) (f : Nat) (F : List Nat),P x ∧ e = .returned (.agg us.toArray) ∧ bq w' w.heap.size (f + 1) us (row x) F ∧ F.Nodup ∧ jJ w' c A len cap z ∧ w.grownBy w' (some c)
variable {z z' : World} {B E f c b j : Nat} {u v : Value} {d : C} {F : List Nat}
theorem Og.turn (h : Og z B E f v d F) (hB : c < B) (hg : z.grownBy z' (some c)) : Og z' B E f v d F:=⟨q9 h.own hB hg,h.gY,h.rng⟩
theorem Og.high (h : Og z B E f v d F) (hg : E ≤ b) : Og (z.setCell ⟨b,j,none⟩ u) B E f v d F:=
  ⟨Own.kept (fun x hx=>Below.heap_setCell _ _ _ _ (by have:=(h.rng x hx).2; show x ≠ b; omega)) h.own,h.gY,h.rng⟩
theorem Og.of (h : Own z B f v d F) (hn : F.Nodup) : Og z B z.heap.size f v d F:=⟨h,hn,h.range⟩
theorem Og.fin {B' f' g : Nat} {cs : Array Value} (h : Og z B E f v d F) (hg : g < B) (hB : B' ≤ B) (hf : f ≤ f') : Own (z.setRow g cs) B' f' v d F:=h.done hg hB hf
end draw
namespace ty
open Go Go.RowKit
structure Label where
  key : ByteArray
  value : ByteArray
namespace Label
def row (x : Label) : List C:=[.str x.key,.str x.value]
theorem au (x : Label) : x.row.length = 2:=rfl
def wt (x : Label) : Nat:=x.key.size + x.value.size
def cost (_ : Label) : Nat:=2
def mark (_ : Label) (k : Int) : Label:=⟨(lawMark.mt k),(lawMark.mt (k + 1))⟩
def Wf (x : Label) : Prop:=x.key.size ≤ maxLen ∧ x.value.size ≤ maxLen
theorem opened {w : World} {f : Nat} {us : List Value} {x : Label} (h : aH w f us x.row) : us = [.string x.key,.string x.value] ∧ x.Wf:=by
  obtain ⟨v0,_,rfl,l0,h⟩:=h.bO;obtain ⟨v1,_,rfl,l1,h⟩:=h.bO;obtain rfl:=h.nO;obtain ⟨rfl,w0⟩:=l0.str;obtain ⟨rfl,w1⟩:=l1.str;exact ⟨rfl,w0,w1⟩
theorem owned {w : World} {B f : Nat} {x : Label} (h : x.Wf) : bq w B (f + 1) [.string x.key,.string x.value] x.row []:=by
  obtain ⟨w0,w1⟩:=h;exact bq.cons (lH w0) (bq.cons (lH w1) (bq.nil))
end Label
end ty
namespace lab
open Go Go.RowKit ty
def aJ (a b : ByteArray) : Bool:=Op.bytesLess a.toList b.toList
def uK (l : List Label) (k : Nat) : Prop:=∀ i (h : i < l.length),i < k → gP l[i].key ∧ gG l[i].value ∧ (∀ m (hm : m + 1 = i),aJ (l[m]'(by omega)).key l[i].key = true)
def dw (l : List Label) : Prop:=l.length ≤ 6 ∧ uK l l.length
theorem BL {l : List Label} {k : Nat} (h : uK l k) (hk : k < l.length) (h1 : gP l[k].key) (h2 : gG l[k].value) (h3 : ∀ m (hm : m + 1 = k),aJ (l[m]'(by omega)).key l[k].key = true) : uK l (k + 1):=fun i hi hik=>by
  by_cases e : i = k
  · subst e; exact ⟨h1,h2,h3⟩
  · exact h i hi (by omega)
theorem Dn {l : List Label} (h : uK l l.length) {k : Nat} (hk : k < l.length) : gP l[k].key ∧ gG l[k].value ∧ (∀ m (hm : m + 1 = k),aJ (l[m]'(by omega)).key l[k].key = true):=h k hk hk
def Small (l : List Label) : Prop:=∀ x ∈ l,x.key.size ≤ 1048576 ∧ x.value.size ≤ 1048576
theorem lQ {l : List Label} (h : bH Label.wt l ≤ 1048576) : Small l:=fun x hx=>by
  obtain ⟨i,hi,rfl⟩:=List.getElem_of_mem hx;have h1:=ko Label.wt hi;unfold Label.wt at h1 h;omega
def XG : List Label → ByteArray → Option ByteArray
  | [],_=>none
  | x :: r,key=>if x.key = key then some x.value else XG r key
def Te (x : Label) : List UInt8:=x.key.data.toList ++ 61 :: x.value.data.toList
def Tf : List Label → List UInt8
  | []=>[]
  | [x]=>Te x
  | x :: y :: r=>Te x ++ 44 :: Tf (y :: r)
open Classical in
noncomputable def acK (l : List Label) : ByteArray:=if dw l then (if l = [] then ⟨#[45]⟩ else ⟨(Tf l).toArray⟩) else ⟨#[]⟩
def ins (x : Label) (l : List Label) : List Label:=l.takeWhile (fun y=>!aJ x.key y.key) ++ x :: l.dropWhile (fun y=>!aJ x.key y.key)
def sorted (l : List Label) : List Label:=l.foldl (fun a x=>ins x a) []
theorem GZ (x : Label) (l : List Label) : (ins x l).length = l.length + 1:=by
  unfold ins;have h:=congrArg List.length (List.takeWhile_append_dropWhile (p:=fun y=>!aJ x.key y.key) (l:=l));rw [List.length_append] at h ⊢;rw [List.length_cons];omega
theorem EJ (l : List Label) (x : Label) : sorted (l ++ [x]) = ins x (sorted l):=by unfold sorted; rw [List.foldl_append]; rfl
theorem lI (l : List Label) : (sorted l).length = l.length:=by
  have h : ∀ (l acc : List Label),(l.foldl (fun a x=>ins x a) acc).length = acc.length + l.length:=by
    intro l
    induction l with
    | nil=>intro acc; simp
    | cons a r ih=>intro acc; rw [List.foldl_cons,ih,GZ,List.length_cons]; omega
  have:=h l [];simpa [sorted] using this
theorem Qe {x : Label} {l : List Label} {y : Label} (h : y ∈ ins x l) : y = x ∨ y ∈ l:=by
  unfold ins at h;rcases List.mem_append.1 h with h | h
  · exact .inr ((List.takeWhile_sublist _).subset h)
  · rcases List.mem_cons.1 h with h | h
    · exact .inl h
    · exact .inr ((List.dropWhile_suffix _).subset h)
theorem pU : ∀ (l acc : List Label) {y : Label},y ∈ l.foldl (fun a x=>ins x a) acc → y ∈ l ∨ y ∈ acc
  | [],acc,y,h=>.inr h
  | a :: r,acc,y,h=>by
    rw [List.foldl_cons] at h;rcases pU r (ins a acc) h with h | h
    · exact .inl (List.mem_cons_of_mem _ h)
    · rcases Qe h with rfl | h
      · exact .inl List.mem_cons_self
      · exact .inr h
theorem Dp {l : List Label} (h : Small l) : Small (sorted l):=fun x hx=>by
  rcases pU l [] hx with h1 | h1
  · exact h x h1
  · cases h1
open Classical in
noncomputable def eB (l : List Label) : List Label × Bool:=if l.length ≤ 6 ∧ dw (sorted l) then (sorted l,true) else (l,false)
theorem Dr {l : List Label} (h : ¬ (l.length ≤ 6 ∧ dw (sorted l))) : eB l = (l,false):=by unfold eB; rw [if_neg h]
theorem EK {l : List Label} (h1 : l.length ≤ 6) (h : dw (sorted l)) : eB l = (sorted l,true):=by unfold eB; rw [if_pos ⟨h1,h⟩]
end lab
namespace ty
open Go Go.RowKit
def Label.cells (x : Label) : List Value:=[.string x.key,.string x.value]
def lvals (l : List Label) : List Value:=l.flatMap Label.cells
theorem fA (l : List Label) : (lvals l).length = l.length * 2:=aM (f:=Label.cells) (sz:=2) (fun _=>rfl) l
theorem je (a b : List Label) : lvals (a ++ b) = lvals a ++ lvals b:=by unfold lvals; rw [List.flatMap_append]
theorem wT (x : Label) : lvals [x] = x.cells:=by simp [lvals]
theorem iU (l : List Label) : ∀ u ∈ lvals l,u.oneCell' = true:=by
  intro u hu;obtain ⟨x,_,hx⟩:=List.mem_flatMap.1 hu;simp [Label.cells] at hx;rcases hx with rfl | rfl <;> rfl
theorem ze (l : List Label) (k : Nat) : (lvals l).take (k * 2) = lvals (l.take k):=by
  by_cases h : k ≤ l.length
  · have e : lvals l = lvals (l.take k) ++ lvals (l.drop k):=(by rw [← je,List.take_append_drop]);have e2 : k * 2 = (lvals (l.take k)).length:=(by rw [fA,List.length_take]; omega);rw [e,e2,List.take_left]
  · rw [List.take_of_length_le (by rw [fA]; omega),List.take_of_length_le (by omega)]
theorem zf (l : List Label) (k : Nat) : (lvals l).drop (k * 2) = lvals (l.drop k):=by
  by_cases h : k ≤ l.length
  · have e : lvals l = lvals (l.take k) ++ lvals (l.drop k):=(by rw [← je,List.take_append_drop]);have e2 : k * 2 = (lvals (l.take k)).length:=(by rw [fA,List.length_take]; omega);rw [e,e2,List.drop_left]
  · rw [List.drop_of_length_le (by rw [fA]; omega),List.drop_of_length_le (by omega)]; rfl
theorem gI {w : World} {f : Nat} {A : Option Addr} {l : List Label} (h : mg Label.row w f A l 2) : jI w A l.length 2 (lvals l) ∧ ∀ x ∈ l,x.Wf:=by
  refine ⟨⟨fA l,fun hm=>?_⟩,fun x hx=>?_⟩
  · obtain ⟨g,o,hA,hg,hc⟩:=h hm;refine ⟨g,o,hA,hg,fun j u hu=>?_⟩
    have hj : j < l.length * 2:=by
      have:=(List.getElem?_eq_some_iff.1 hu).1
      rwa [fA] at this
    have e : j / 2 * 2 + j % 2 = j:=(by omega);have hi : j / 2 < l.length:=(by omega);obtain ⟨us,h1,h2,h3⟩:=hc (j / 2) _ (List.getElem?_eq_getElem hi);obtain ⟨rfl,_⟩:=Label.opened h3;rw [← e] at hu;unfold lvals at hu;rw [gq (f:=Label.cells) (sz:=2) (fun _=>rfl) l (j / 2) (j % 2) _ (List.getElem?_eq_getElem hi) (by omega)] at hu;have:=h2 (j % 2) u hu
    rwa [Nat.add_assoc,e] at this
  · obtain ⟨i,hi,rfl⟩:=List.getElem_of_mem hx;obtain ⟨g,o,hA,hg,hc⟩:=h (by omega);obtain ⟨us,h1,h2,h3⟩:=hc i _ (List.getElem?_eq_getElem hi);exact (Label.opened h3).2
theorem zi {w : World} {B f : Nat} : ∀ l : List Label,(∀ x ∈ l,x.Wf) → bq w B (f + 1) (lvals l) (l.flatMap Label.row) []
  | [],_=>bq.nil
  | x :: l,h=>by
    have h1:=Label.owned (w:=w) (B:=B) (f:=f) (h x List.mem_cons_self);have h2:=zi (w:=w) (B:=B) (f:=f) l fun y hy=>h y (List.mem_cons_of_mem _ hy);exact h1.append h2
theorem gQ {w : World} {B : Nat} {e : TypeId} {v : Value} {l : List Label} (h : w.ownsRow B e 2 v l.length (lvals l)) (hw : ∀ x ∈ l,x.Wf) : ∃ F,Own w B 2 v (.sl 2 l.length (l.flatMap Label.row)) F ∧ F.Nodup ∧ ∀ x ∈ F,B ≤ x ∧ x < w.heap.size:=
  dx.own ⟨lvals l,[],h,by rw [aM Label.au],zi l hw,List.nodup_nil,fun x hx=>by cases hx⟩
end ty
namespace lab
open Go Go.RowKit ty
theorem Dt : ∀ a b : List UInt8,(Op.bytesLess a b || a == b) = !Op.bytesLess b a
  | [],[]=>rfl
  | [],b :: y=>by simp [Op.bytesLess]
  | a :: x,[]=>by simp [Op.bytesLess]
  | a :: x,b :: y=>by
    have ih:=Dt x y;simp only [Op.bytesLess];by_cases h1 : a < b
    · have h2 : ¬ b < a:=(by rw [UInt8.lt_iff_toNat_lt] at h1 ⊢; omega);have h3 : (b == a) = false:=(by rw [beq_eq_false_iff_ne]; rintro rfl; rw [UInt8.lt_iff_toNat_lt] at h1; omega);simp [h1,h2,h3]
    · by_cases h2 : b < a
      · have h3 : (a == b) = false:=(by rw [beq_eq_false_iff_ne]; rintro rfl; rw [UInt8.lt_iff_toNat_lt] at h2; omega);simp only [beq_eq_false_iff_ne] at h3;simp [h1,h2,h3]
      · obtain rfl : a = b:=by
          apply UInt8.toNat_inj.1;rw [UInt8.lt_iff_toNat_lt] at h1 h2;omega
        simp [h1];simpa using ih
theorem MF {x : Label} {l : List Label} {k : Nat} (hk : k ≤ l.length) (h1 : ∀ q (h : q < k),aJ x.key (l[q]'(by omega)).key = false) (h2 : ∀ h : k < l.length,aJ x.key l[k].key = true) : ins x l = l.take k ++ x :: l.drop k:=by
  have e : ∀ (l : List Label) (k : Nat),k ≤ l.length → (∀ q (h : q < k) (hl : q < l.length),aJ x.key l[q].key = false) → (∀ h : k < l.length,aJ x.key l[k].key = true) → l.takeWhile (fun y=>!aJ x.key y.key) = l.take k ∧ l.dropWhile (fun y=>!aJ x.key y.key) = l.drop k:=by
    intro l
    induction l with
    | nil=>intro k hk _ _; simp
    | cons a r ih=>
      intro k hk h1 h2;cases k with
      | zero=>
        have h0:=h2 (by simp);simp at h0;simp [h0]
      | succ k=>
        have h0:=h1 0 (by omega) (by simp);simp at h0;have:=ih k (by simpa using hk) (fun q h hl=>by have:=h1 (q + 1) (by omega) (by simpa using hl); simpa using this) (fun h=>by have:=h2 (by simpa using h); simpa using this);simp [h0,this.1,this.2]
  obtain ⟨e1,e2⟩:=e l k hk (fun q h _=>h1 q h) h2;unfold ins;rw [e1,e2]
theorem Kn {l : List Label} (h : ∀ x ∈ l,x.Wf) : ∀ x ∈ sorted l,x.Wf:=fun x hx=>by
  rcases pU l [] hx with h1 | h1
  · exact h x h1
  · cases h1
end lab
namespace lab
open Go Go.RowKit ty
theorem cu {a b : ByteArray} (h : a = b) : (a.toList == b.toList) = true:=by subst h; simp
theorem dH {a b : ByteArray} (h : ¬ a = b) : (a.toList == b.toList) = false:=by
  rw [beq_eq_false_iff_ne,ByteArray.toList_eq,ByteArray.toList_eq];exact fun e=>h (by apply ByteArray.ext; exact Array.ext' e)
def aef (o : Option ByteArray) : Value:=match o with
  | some y=>.tuple #[.string y,.bool true]
  | none=>.tuple #[.string ⟨#[]⟩,.bool false]
def mU (a b : List Label) (k : Nat) : Prop:=∀ i (h1 : i < a.length) (h2 : i < b.length),i < k → a[i].key = b[i].key ∧ a[i].value = b[i].value
def oO (a b : List Label) : Prop:=a.length = b.length ∧ mU a b a.length
theorem wU {a b : List Label} : oO a b ↔ a = b:=by
  constructor
  · rintro ⟨h1,h2⟩;refine List.ext_getElem h1 fun i i1 i2=>?_;obtain ⟨e1,e2⟩:=h2 i i1 i2 i1;cases hx : a[i];cases hy : b[i];rw [hx,hy] at e1 e2;simp only at e1 e2;rw [e1,e2]
  · rintro rfl;exact ⟨rfl,fun i _ _ _=>⟨rfl,rfl⟩⟩
end lab
section
open Go Go.RowKit
def dB {α : Type} (w w' : World) (e : Ending) (sz : Nat) (row : α → List C) (r : List α × Bool) : Prop:=
  ∃ v f F,e = .returned (.tuple #[v,.bool r.2]) ∧ Own w' w.heap.size (f + 1) v (.sl sz r.1.length (r.1.flatMap row)) F ∧ F.Nodup ∧ Below w.heap.size w w'
namespace lab
end lab
end
namespace lab
open Go.ChangeShapes Go.WideShapes Go.ChangeAt Go.RowKit ty
theorem yK (w : World) (x y : ByteArray) : jI (w.alloc (.cells #[.string x,.string y] 65)) (some ⟨w.heap.size,0,none⟩) 1 2 [.string x,.string y]:=by
  refine ⟨rfl,fun _=>⟨_,0,rfl,by simp,fun j u hu=>?_⟩⟩;rw [Nat.zero_add,cell_of_row _ _ _ _ _ _ (heap_alloc_new w _)];simpa using hu
end lab
namespace lab
open Go.ChangeShapes Go.WideShapes Go.ChangeAt Go.RowKit ty
set_option maxRecDepth 100000 in
set_option maxHeartbeats 8000000 in
theorem rz (l : List Label) (f : Nat) (v : Value) (w : World) (h : bf w f v (.sl 2 l.length (l.flatMap Label.row))) (hz : Small l) :
    Calls Tryz.prog 52 #[v] w fun e w'=>e = .returned (.bool (yes (dw l))) ∧ ∃ n,w' = w.drewN n:=by
  obtain ⟨A,c,rfl,hc1,hc2,f',rfl,hk⟩:=bD Label.au h;unfold maxLen at hc2;obtain ⟨R,hR⟩ : ∃ R,yes (dw l) = R:=⟨_,rfl⟩;rw [hR];have Hno : Hid (¬ dw l → R = false):=fun h=>by rw [← hR]; exact aP h
  have aG : Hid (dw l → R = true):=fun h=>by rw [← hR]; exact aQ h
  have Hk:=Lib.hid hk;have Hz:=Lib.hid hz;clear h hk hR hz;by_cases h6 : 6 < l.length
  · have Hf:=Lib.hid (Hno.out fun h2=>by have:=h2.1; omega);go_enter Tryz.func52,Tryz.ntmps52;go_wp2_with fail;go_ret;exact ⟨by rw [Hf.out]; rfl,0,rfl⟩
  have qD:=Lib.hid (fun h3=>aG.out ⟨by omega,h3⟩);go_enter Tryz.func52,Tryz.ntmps52;go_wp2_with fail
  go_loopw [3] (fun i wr=>∃ j : Nat,j ≤ l.length ∧ i = .int .i64 j ∧ Hid (uK l j) ∧ ∃ n,wr = w.drewN n) (fun i _=>l.length - (intOf i).toNat)
  case atStart=>exact ⟨0,Nat.zero_le _,rfl,fun i hi hj=>by omega,0,rfl⟩
  case round=>
    obtain ⟨j,hj,rfl,hgood,n0,hwr⟩:=hrel;have Hw : Hid (∃ n,wr = w.drewN n):=⟨n0,hwr⟩;by_cases hlt : j < l.length
    · obtain ⟨g,o,hA,hg,hcc⟩:=(Hk.out) (by omega);obtain ⟨us,kN,hc,hls⟩:=hcc j _ (List.getElem?_eq_getElem hlt);obtain ⟨rfl,hwf⟩:=Label.opened hls;have q0 : wr.cell? ⟨g,o + j * 2,none⟩ = some (.string l[j].key):=(by rw [hwr]; exact hc 0 _ rfl);have q1 : wr.cell? ⟨g,o + j * 2 + 1,none⟩ = some (.string l[j].value):=(by rw [hwr]; exact hc 1 _ rfl);have hzj:=Hz.out l[j] (List.getElem_mem hlt);have LY:=Lib.hid (fun w=>vC l[j].key w hzj.1);have MG:=Lib.hid (fun w=>vD l[j].value w hzj.2);have hji : (0 : Int) ≤ (j : Int):=(by omega);by_cases hK : gP l[j].key
      case neg=>
        have Hf:=Lib.hid (Hno.out fun h2=>hK (Dn h2.2 hlt).1);rw [aP hK] at LY;subst hA;clear hwr;clear hK Hno aG qD hgood hcc hc hls kN hwf hzj MG q1;generalize l[j].key = x at q0 LY;go_wp2_with fail
        go_quiet (first | (go_at_call 117; exact Calls.quiet_of (LY.out _)))
        go_wp2_with fail;go_ret;exact ⟨by rw [Hf.out]; rfl,dU Hw.out _⟩
      rw [aQ hK] at LY;by_cases hV : gG l[j].value
      case neg=>
        have Hf:=Lib.hid (Hno.out fun h2=>hV (Dn h2.2 hlt).2.1);rw [aP hV] at MG;subst hA;clear hwr;clear hK hV Hno aG qD hgood hcc hc hls kN hwf hzj;generalize l[j].key = x at q0 LY;generalize l[j].value = y at q1 MG;go_wp2_with fail
        go_quiet (first | (go_at_call 117; exact Calls.quiet_of (LY.out _)) | (go_at_call 118; exact Calls.quiet_of (MG.out _)))
        go_wp2_with fail;go_ret;exact ⟨by rw [Hf.out]; rfl,dU Hw.out _⟩
      rw [aQ hV] at MG;by_cases hj0 : j = 0
      · have Hg:=Lib.hid (BL hgood.out hlt hK hV (fun m hm=>by omega));have hn0 : ¬ (0 : Int) < (j : Int):=(by omega);have hn1 : ¬ 0 < j:=(by omega);subst hA;clear hwr;clear hK hV Hno aG hgood hcc hc hls kN hwf hzj hj0;generalize l[j].key = x at q0 LY;generalize l[j].value = y at q1 MG;go_wp2_with fail
        go_quiet (first | (go_at_call 117; exact Calls.quiet_of (LY.out _)) | (go_at_call 118; exact Calls.quiet_of (MG.out _)))
        go_wp2_with fail
        go_roundw
        case rel=>exact ⟨j + 1,by omega,by go_num,Hg.out,dU Hw.out _⟩
        case measure=>simp [intOf]; omega
      obtain ⟨m,hm⟩ : ∃ m,m + 1 = j:=⟨j - 1,by omega⟩;have hml : m < l.length:=(by omega);obtain ⟨MH,jD,hc2',eZ⟩:=hcc m _ (List.getElem?_eq_getElem hml);obtain ⟨rfl,dZ⟩:=Label.opened eZ;have p0 : wr.cell? ⟨g,o + m * 2,none⟩ = some (.string l[m].key):=(by rw [hwr]; exact hc2' 0 _ rfl);have yZ : (j : Int) - 1 = (m : Int):=(by omega);have hjp : (0 : Int) < (j : Int):=(by omega);have Dw : 0 < j:=(by omega);cases hb : aJ l[m].key l[j].key with
      | true=>
        have Hg:=Lib.hid (BL hgood.out hlt hK hV (fun m' hm'=>by
                                                                            obtain rfl : m' = m:=(by omega);exact hb))
        unfold aJ at hb;subst hA;clear hwr;clear hK hV Hno aG hgood hcc hc hls kN hwf hzj hj0 hc2' eZ jD dZ hm;generalize l[j].key = x at q0 LY hb;generalize l[j].value = y at q1 MG;generalize l[m].key = z at p0 hb;go_wp2_with fail
        go_quiet (first | (go_at_call 117; exact Calls.quiet_of (LY.out _)) | (go_at_call 118; exact Calls.quiet_of (MG.out _)))
        go_wp2_with fail
        go_roundw
        case rel=>exact ⟨j + 1,by omega,by go_num,Hg.out,dU Hw.out _⟩
        case measure=>simp [intOf]; omega
      | false=>
        have Hf:=Lib.hid (Hno.out fun h2=>by rw [(Dn h2.2 hlt).2.2 m hm] at hb; cases hb);unfold aJ at hb;subst hA;clear hwr;clear hK hV Hno aG hgood hcc hc hls kN hwf hzj hj0 hc2' eZ jD dZ hm qD;generalize l[j].key = x at q0 LY hb;generalize l[j].value = y at q1 MG;generalize l[m].key = z at p0 hb;go_wp2_with fail
        go_quiet (first | (go_at_call 117; exact Calls.quiet_of (LY.out _)) | (go_at_call 118; exact Calls.quiet_of (MG.out _)))
        go_wp2_with fail;go_ret;exact ⟨by rw [Hf.out]; rfl,dU Hw.out _⟩
    · obtain rfl : j = l.length:=(by omega);have Hf:=Lib.hid (qD.out hgood.out);clear hgood hwr;go_wp2_with fail;go_ret;exact ⟨by rw [Hf.out]; rfl,Hw.out⟩
end lab
end Go.Proofs.YtcfbkfmkjggcdaaGreatDoor
