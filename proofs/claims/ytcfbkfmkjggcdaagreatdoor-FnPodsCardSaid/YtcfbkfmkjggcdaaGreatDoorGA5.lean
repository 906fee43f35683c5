/- Merged: FlT FlSrt RowE St3 RotM AppAny. -/
import Derived.Test.YtcfbkfmkjggcdaaGreatDoorGA4
import Derived.Deep.RegionLaw
import Derived.Test.YtcfbkfmkjggcdaaGreatDoorCell
import Derived.Deep.WholeRow
set_option linter.unusedVariables false
namespace Go.Proofs.YtcfbkfmkjggcdaaGreatDoor
namespace flt
open Go Go.RowKit
variable {α : Type} {enc : α → List Value} {k : Nat}
theorem kV (hk : ∀ x,(enc x).length = k) (l : List α) (j : Nat) : (l.flatMap enc).take (j * k) = (l.take j).flatMap enc:=by
  by_cases h : j ≤ l.length
  · have e : l.flatMap enc = (l.take j).flatMap enc ++ (l.drop j).flatMap enc:=(by rw [← List.flatMap_append,List.take_append_drop]);have e2 : j * k = ((l.take j).flatMap enc).length:=(by rw [aM hk,List.length_take,Nat.min_eq_left h]);rw [e,e2,List.take_left]
  · rw [List.take_of_length_le (by rw [aM hk]; exact Nat.mul_le_mul_right _ (by omega)),List.take_of_length_le (by omega)]
theorem wO (hk : ∀ x,(enc x).length = k) (l : List α) (j : Nat) : (l.flatMap enc).drop (j * k) = (l.drop j).flatMap enc:=by
  by_cases h : j ≤ l.length
  · have e : l.flatMap enc = (l.take j).flatMap enc ++ (l.drop j).flatMap enc:=(by rw [← List.flatMap_append,List.take_append_drop]);have e2 : j * k = ((l.take j).flatMap enc).length:=(by rw [aM hk,List.length_take,Nat.min_eq_left h]);rw [e,e2,List.drop_left]
  · rw [List.drop_of_length_le (by rw [aM hk]; exact Nat.mul_le_mul_right _ (by omega)),List.drop_of_length_le (by omega)]; rfl
theorem u7 : ∀ (vs xs : List Value) (o : Nat),o + vs.length ≤ xs.length → pO xs o vs = xs.take o ++ vs ++ xs.drop (o + vs.length)
  | [],xs,o,_=>by simp [pO]
  | v :: r,xs,o,h=>by
    simp only [List.length_cons] at h;rw [pO,u7 r _ _ (by simp; omega),List.take_succ_eq_append_getElem (by simp; omega),List.take_set_of_le (Nat.le_refl _),List.getElem_set_self,List.drop_set_of_lt (by omega)];simp only [List.length_cons,List.append_assoc,List.cons_append,List.nil_append];rw [show o + 1 + r.length = o + (r.length + 1) by omega]
theorem Ey (hk : ∀ x,(enc x).length = k) (l : List α) (j : Nat) (x : α) (h : j < l.length) : pO (l.flatMap enc) (j * k) (enc x) = (l.set j x).flatMap enc:=by
  have h2 : j * k + k ≤ l.length * k:=(by rw [← Nat.succ_mul]; exact Nat.mul_le_mul_right _ h);rw [u7 _ _ _ (by rw [aM hk,hk]; exact h2),hk,kV hk,show j * k + k = (j + 1) * k from (Nat.succ_mul j k).symm,wO hk,List.set_eq_take_append_cons_drop,if_pos h,List.flatMap_append,List.flatMap_cons,List.append_assoc]
theorem cell_of {w : World} {B g c n : Nat} {e : TypeId} {l : List α} (hk : ∀ x,(enc x).length = k) (h : w.ownsRow B e k (.slice (some ⟨g,0,none⟩) n c) n (l.flatMap enc)) {j i : Nat} (hj : j < l.length) (hi : i < k) {u : Value} (hu : (enc l[j])[i]? = some u) : w.cell? ⟨g,j * k + i,none⟩ = some u:=by
  have h1:=h.cells (g:=g) rfl (j * k + i) u (by rw [gq hk l j i _ (List.getElem?_eq_getElem hj) hi]; exact hu)
  rwa [Addr.add_lit,Nat.zero_add] at h1
theorem eP (h1 : ∀ x,∀ u ∈ enc x,u.oneCell' = true) (l : List α) : ∀ u ∈ l.flatMap enc,u.oneCell' = true:=fun u hu=>by
  obtain ⟨x,_,hx⟩:=List.mem_flatMap.1 hu;exact h1 x u hx
theorem gI {row : α → List C} {Wf : α → Prop} (hk : ∀ x,(enc x).length = k) (k0 : 0 < k) (hop : ∀ (w : World) (f : Nat) (us : List Value) (x : α),aH w f us (row x) → us = enc x ∧ Wf x) {w : World} {f : Nat} {A : Option Addr} {l : List α} (h : mg row w f A l k) : jI w A l.length k (l.flatMap enc) ∧ ∀ x ∈ l,Wf x:=by
  refine ⟨⟨aM hk l,fun hm=>?_⟩,fun x hx=>?_⟩
  · obtain ⟨g,o,hA,hg,hc⟩:=h hm;refine ⟨g,o,hA,hg,fun j u hu=>?_⟩
    have hj : j < l.length * k:=by
      have:=(List.getElem?_eq_some_iff.1 hu).1
      rwa [aM hk] at this
    have e : j / k * k + j % k = j:=Nat.div_add_mod' j k;have hi : j / k < l.length:=(Nat.div_lt_iff_lt_mul k0).2 hj;obtain ⟨us,h1,h2,h3⟩:=hc (j / k) _ (List.getElem?_eq_getElem hi);obtain ⟨rfl,_⟩:=hop _ _ _ _ h3;rw [← e] at hu;rw [gq hk l (j / k) (j % k) _ (List.getElem?_eq_getElem hi) (Nat.mod_lt _ k0)] at hu;have:=h2 (j % k) u hu
    rwa [Nat.add_assoc,e] at this
  · obtain ⟨i,hi,rfl⟩:=List.getElem_of_mem hx;obtain ⟨g,o,hA,hg,hc⟩:=h (by omega);obtain ⟨us,h1,h2,h3⟩:=hc i _ (List.getElem?_eq_getElem hi);exact (hop _ _ _ _ h3).2
theorem BG {row : α → List C} {Wf : α → Prop} {w : World} {B f : Nat} (hown : ∀ x : α,Wf x → bq w B (f + 1) (enc x) (row x) []) : ∀ l : List α,(∀ x ∈ l,Wf x) → bq w B (f + 1) (l.flatMap enc) (l.flatMap row) []
  | [],_=>bq.nil
  | x :: l,h=>by
    rw [List.flatMap_cons,List.flatMap_cons];exact (hown x (h x List.mem_cons_self)).append (BG hown l fun y hy=>h y (List.mem_cons_of_mem _ hy))
theorem yS {row : α → List C} {Wf : α → Prop} {w : World} {B : Nat} {e : TypeId} {v : Value} {l : List α} (hr : ∀ x,(row x).length = k) (hown : ∀ x : α,Wf x → bq w B 1 (enc x) (row x) []) (h : w.ownsRow B e k v l.length (l.flatMap enc)) (hw : ∀ x ∈ l,Wf x) : ∃ F,Own w B 2 v (.sl k l.length (l.flatMap row)) F ∧ F.Nodup ∧ ∀ x ∈ F,B ≤ x ∧ x < w.heap.size:=
  dx.own ⟨l.flatMap enc,[],h,by rw [aM hr],BG (f:=0) hown l hw,List.nodup_nil,fun x hx=>by cases hx⟩
theorem jd {w : World} {B : Nat} {e : TypeId} {size n : Nat} {v : Value} {xs : List Value} (h : w.ownsRow B e size v n xs) (hn : 0 < n) : ∃ g c,v = .slice (some ⟨g,0,none⟩) n c:=by
  rcases h.2 with ⟨_,h⟩ | ⟨g,cap,cur,rfl,_⟩
  · omega
  · exact ⟨g,cap,rfl⟩
end flt
namespace flt
open Go Go.RowKit
theorem eY {P : Program} {ops : Array Oper} {o : Oper} {a : Act} {X wd : World} {K : Act → World → Prop} {Q : Exit → Act → World → Prop} {E : Prop}
    (hg : o.guard = none) (s x : Operand) (t : TypeId) (hop : o.op = Op.call { callee:=Callee.builtin Builtin.append,args:=#[s,x],argTypes:=#[t,t] })
    (e : TypeId) (i : TypeInfo) (z : Value) (size bytes : Nat) (ht : P.underlying t = some (.slice e)) (hi : P.info? e = some i) (hz : i.zero = some z)
    (hsize : i.size = size) (hby : i.bytes = bytes) (hzs : z.cells.size = size) (hsz : 0 < size) (hbb : bytes ≤ 1000)
    (b : Nat) (hs : a.eval s = .slice (some ⟨b,0,none⟩) 0 0) (hX : Below wd.heap.size wd X) (hown : X.ownsRow wd.heap.size e size (.slice (some ⟨b,0,none⟩) 0 0) 0 [])
    (A : Option Addr) (k c : Nat) (news : List Value) (hx : a.eval x = .slice A k c) (hr : jI wd A k size news) (h1 : ∀ u ∈ news,u.oneCell' = true) (hk : k ≤ 64)
    (hK : ∀ v' w',w'.ownsRow wd.heap.size e size v' k news → Below wd.heap.size wd w' → X.heap.size ≤ w'.heap.size → (∀ q,q < X.heap.size → q ≠ b → w'.heap[q]? = X.heap[q]?) → K (a.put o.dst v') w') :
    if Region.wanted o (yielded ops a.tmps) = true then Oper.wp P o a X K Q else E:=by
  have Mq : (0 + k) * bytes ≤ 140737488355328:=Nat.le_trans (Nat.mul_le_mul (show 0 + k ≤ 64 by omega) hbb) (by decide);refine dV hg s x t hop wd.heap.size e i z size bytes ht hi hz hsize hby hzs hsz _ 0 [] hs hown A k c news hx (hr.below hX) h1 (by unfold maxLen; omega) Mq hX.size ?_;intro v' w' h1 h2 h3;rw [Nat.zero_add,List.nil_append] at h1;refine hK v' w' h1 (hX.grown h2 hX.size (fun q hq=>(hown.lt q hq).1)) h2.size (fun q hq hb=>h2.block q hq (fun e=>hb (by simp [Value.ownBlock] at e; omega)))
theorem iR {P : Program} {ops : Array Oper} {o : Oper} {a : Act} {Y wd : World} {K : Act → World → Prop} {Q : Exit → Act → World → Prop} {E : Prop}
    (hg : o.guard = none) (s x : Operand) (t : TypeId) (hop : o.op = Op.call { callee:=Callee.builtin Builtin.append,args:=#[s,x],argTypes:=#[t,t] })
    (e : TypeId) (i : TypeInfo) (z : Value) (size bytes : Nat) (ht : P.underlying t = some (.slice e)) (hi : P.info? e = some i) (hz : i.zero = some z)
    (hsize : i.size = size) (hby : i.bytes = bytes) (hzs : z.cells.size = size) (hsz : 0 < size) (hbb : bytes ≤ 1000)
    (v : Value) (k : Nat) (news us : List Value) (hs : a.eval s = v) (hY : Below wd.heap.size wd Y) (hown : Y.ownsRow wd.heap.size e size v k news)
    (A : Option Addr) (hx : a.eval x = .slice A 1 1) (hr : jI Y A 1 size us) (h1 : ∀ u ∈ us,u.oneCell' = true) (hk : k ≤ 64)
    (hK : ∀ v' w',w'.ownsRow wd.heap.size e size v' (k + 1) (news ++ us) → Below wd.heap.size wd w' → K (a.put o.dst v') w') :
    if Region.wanted o (yielded ops a.tmps) = true then Oper.wp P o a Y K Q else E:=by
  have Mq : (k + 1) * bytes ≤ 140737488355328:=Nat.le_trans (Nat.mul_le_mul (show k + 1 ≤ 65 by omega) hbb) (by decide);refine dV hg s x t hop wd.heap.size e i z size bytes ht hi hz hsize hby hzs hsz v k _ hs hown A 1 1 us hx hr h1 (by unfold maxLen; omega) Mq hY.size ?_;intro v' w' h1 h2 h3;exact hK v' w' h1 (hY.grown h2 hY.size (fun q hq=>(hown.lt q hq).1))
theorem jQ (w : World) (o : Obj) : Below w.heap.size w ((w.alloc o).drew):=((Below.refl _ _).alloc (Nat.le_refl _) _).drew
theorem mQ (w : World) (o p : Obj) : Below w.heap.size w (((w.alloc o).alloc p).drew):=(((Below.refl _ _).alloc (Nat.le_refl _) _).alloc (by simp) _).drew
section
variable (e : TypeId) (k : Nat)
theorem wP (w : World) : ((w.alloc (.cells #[] e)).drew).ownsRow w.heap.size e k (.slice (some ⟨w.heap.size,0,none⟩) 0 0) 0 []:=
  World.ownsRow_lit w #[] 0 (Nat.le_refl _) (by simp [maxLen]) (by simp)
theorem wQ (w : World) (p : Obj) : (((w.alloc (.cells #[] e)).alloc p).drew).ownsRow w.heap.size e k (.slice (some ⟨w.heap.size,0,none⟩) 0 0) 0 []:=
  own_below' (World.ownsRow_lit w #[] 0 (Nat.le_refl _) (by simp [maxLen]) (by simp)) ((Below.refl _ _).alloc (Nat.le_refl _) p).drew
theorem wR (w : World) (p : Obj) : (((w.alloc p).alloc (.cells #[] e)).drew).ownsRow w.heap.size e k (.slice (some ⟨w.heap.size + 1,0,none⟩) 0 0) 0 []:=by
  have h : w.heap.size + 1 = (w.alloc p).heap.size:=(by simp);rw [h];exact bR (World.ownsRow_lit (w.alloc p) #[] 0 (Nat.le_refl _) (by simp [maxLen]) (by simp)) (by simp)
end
theorem sG {w : World} {b k : Nat} {e : TypeId} {xs : List Value} (hx : xs.length = k) (h : w.heap[b]? = some (.cells xs.toArray e (0,0))) : jI w (some ⟨b,0,none⟩) 1 k xs:=by
  refine ⟨by omega,fun _=>⟨b,0,rfl,aX h,fun j u hu=>?_⟩⟩;rw [Nat.zero_add,cell_of_row _ _ _ _ _ _ h];simpa using hu
theorem yw {w w' : World} {o : Obj} {k : Nat} {e : TypeId} {xs : List Value} (hx : xs.length = k) (h : ∀ q,q < (((w.alloc o).alloc (.cells xs.toArray e)).drew).heap.size → q ≠ w.heap.size → w'.heap[q]? = (((w.alloc o).alloc (.cells xs.toArray e)).drew).heap[q]?) : jI w' (some ⟨w.heap.size + 1,0,none⟩) 1 k xs:=by
  refine sG (e:=e) hx ((h _ (by show _ < ((w.alloc o).alloc _).heap.size; simp) (by omega)).trans ?_);have:=heap_alloc_new (w.alloc o) (.cells xs.toArray e);have e : (w.alloc o).heap.size = w.heap.size + 1:=(by simp);rw [e] at this;exact this
theorem yx {w w' : World} {o : Obj} {k : Nat} {e : TypeId} {xs : List Value} (hx : xs.length = k) (h : ∀ q,q < (((w.alloc (.cells xs.toArray e)).alloc o).drew).heap.size → q ≠ w.heap.size + 1 → w'.heap[q]? = (((w.alloc (.cells xs.toArray e)).alloc o).drew).heap[q]?) : jI w' (some ⟨w.heap.size,0,none⟩) 1 k xs:=by
  refine sG (e:=e) hx ((h _ (by show _ < ((w.alloc _).alloc o).heap.size; simp <;> omega) (by omega)).trans ?_);have e2 : w.heap.size < (w.alloc (.cells xs.toArray e)).heap.size:=(by simp);exact (Below.heap_alloc (w.alloc (.cells xs.toArray e)) o w.heap.size e2).trans (heap_alloc_new w _)
theorem fD {k : Nat} (w : World) (e : TypeId) (xs : List Value) (hx : xs.length = k) : jI (w.alloc (.cells xs.toArray e)) (some ⟨w.heap.size,0,none⟩) 1 k xs:=sG hx (heap_alloc_new w _)
end flt
section
open Go Go.RowKit
def aC (e : TypeId) (w : World) (g : Nat) (us : List Value) : Prop:=w.heap[g]? = some (.cells us.toArray e (0,0))
theorem aC.below {e : TypeId} {w a : World} {g : Nat} {us : List Value} (h : aC e w g us) (k : Below w.heap.size w a) : aC e a g us:=eX k (aX h) h
theorem aC.cell {e : TypeId} {w : World} {g : Nat} {us : List Value} (h : aC e w g us) (j : Nat) (u : Value) (hj : us[j]? = some u) : w.cell? ⟨g,j,none⟩ = some u:=by
  rw [cell_of_row w _ j _ _ _ h];simpa using hj
theorem aC.new (e : TypeId) (w : World) (us : List Value) : aC e (w.alloc (.cells us.toArray e)) w.heap.size us:=heap_alloc_new w _
theorem aC.alloc {e e2 : TypeId} {w : World} {g : Nat} {us vs : List Value} (h : aC e w g us) : aC e (w.alloc (.cells vs.toArray e2)) g us:=h.below ((Below.refl _ _).alloc (Nat.le_refl _) _)
theorem aC.frozen {e : TypeId} {w : World} {g : Nat} {us : List Value} (h : aC e w g us) (j : Nat) : w.frozen? ⟨g,j,none⟩ = false:=by
  unfold aC at h;simp [World.frozen?,h]
theorem aC.put {e : TypeId} {w : World} {g : Nat} {us : List Value} (h : aC e w g us) (j : Nat) (v : Value) : aC e (w.setCell ⟨g,j,none⟩ v) g (us.set j v):=by
  have:=heap_setCell_same w g j us.toArray e v h;unfold aC;rw [this];simp
theorem aC.other {e : TypeId} {w : World} {g x j : Nat} {v : Value} {us : List Value} (h : aC e w x us) (hx : x ≠ g) : aC e (w.setCell ⟨g,j,none⟩ v) x us:=
  (Below.heap_setCell w ⟨g,j,none⟩ v x hx).trans h
end
namespace ty
open Go Go.RowKit
structure qY (LT IT : TypeId) (w : World) (ar zr cur : List Value) (z : World) : Prop where
  gK : Below w.heap.size w z
  k0 : aC LT z w.heap.size ar
  k1 : aC IT z (w.heap.size + 1) zr
  k2 : aC IT z (w.heap.size + 2) cur
variable {LT IT : TypeId} {w z z' : World} {ar zr cur : List Value}
theorem qY.lt (h : qY LT IT w ar zr cur z) : w.heap.size + 3 ≤ z.heap.size:=aX h.k2
theorem qY.call (h : qY LT IT w ar zr cur z) (hb : Below z.heap.size z z') : qY LT IT w ar zr cur z':=
  ⟨ah h.gK hb h.gK.size,h.k0.below hb,h.k1.below hb,h.k2.below hb⟩
theorem qY.put (h : qY LT IT w ar zr cur z) (j : Nat) (u : Value) : qY LT IT w ar zr (cur.set j u) (z.setCell ⟨w.heap.size + 2,j,none⟩ u):=
  ⟨h.gK.setCell (by show w.heap.size ≤ w.heap.size + 2; omega) _,aC.other h.k0 (by omega),aC.other h.k1 (by omega),aC.put h.k2 j u⟩
theorem qY.new : qY LT IT w ar zr cur (((w.alloc (.cells ar.toArray LT)).alloc (.cells zr.toArray IT)).alloc (.cells cur.toArray IT)):=by
  refine ⟨(((Below.refl _ _).alloc (Nat.le_refl _) _).alloc (by simp) _).alloc (by simp; omega) _,((aC.new _ _ _).alloc).alloc,?_,?_⟩
  · have h:=aC.new IT (w.alloc (.cells ar.toArray LT)) zr;rw [show (w.alloc (.cells ar.toArray LT)).heap.size = w.heap.size + 1 by simp] at h;exact h.alloc
  · have h:=aC.new IT ((w.alloc (.cells ar.toArray LT)).alloc (.cells zr.toArray IT)) cur;rw [show ((w.alloc (.cells ar.toArray LT)).alloc (.cells zr.toArray IT)).heap.size = w.heap.size + 2 by simp] at h;exact h
structure wL (IT : TypeId) (w : World) (cur zr : List Value) (z : World) : Prop where
  gK : Below w.heap.size w z
  k0 : aC IT z w.heap.size cur
  k1 : aC IT z (w.heap.size + 1) zr
theorem wL.lt (h : wL IT w cur zr z) : w.heap.size + 2 ≤ z.heap.size:=aX h.k1
theorem wL.call (h : wL IT w cur zr z) (hb : Below z.heap.size z z') : wL IT w cur zr z':=⟨ah h.gK hb h.gK.size,h.k0.below hb,h.k1.below hb⟩
theorem wL.put (h : wL IT w cur zr z) (j : Nat) (u : Value) : wL IT w (cur.set j u) zr (z.setCell ⟨w.heap.size,j,none⟩ u):=
  ⟨h.gK.setCell (Nat.le_refl _) _,aC.put h.k0 j u,aC.other h.k1 (by omega)⟩
theorem wL.new : wL IT w cur zr ((w.alloc (.cells cur.toArray IT)).alloc (.cells zr.toArray IT)):=by
  refine ⟨((Below.refl _ _).alloc (Nat.le_refl _) _).alloc (by simp) _,(aC.new _ _ _).alloc,?_⟩;have h:=aC.new IT (w.alloc (.cells cur.toArray IT)) zr;rw [show (w.alloc (.cells cur.toArray IT)).heap.size = w.heap.size + 1 by simp] at h;exact h
structure Og (z : World) (B E f : Nat) (v : Value) (d : C) (F : List Nat) : Prop where
  own : Own z B f v d F
  gY : F.Nodup
  rng : ∀ x ∈ F,B ≤ x ∧ x < E
theorem Og.call {B E f : Nat} {v : Value} {d : C} {F : List Nat} (h : Og z B E f v d F) (hb : Below z.heap.size z z') : Og z' B E f v d F:=⟨h.own.below hb,h.gY,h.rng⟩
theorem Og.put {B E f g j : Nat} {u v : Value} {d : C} {F : List Nat} (h : Og z B E f v d F) (hg : g < B) : Og (z.setCell ⟨g,j,none⟩ u) B E f v d F:=⟨Own.jU h.own hg,h.gY,h.rng⟩
theorem Og.done {B B' E f f' g : Nat} {c : Array Value} {v : Value} {d : C} {F : List Nat} (h : Og z B E f v d F) (hg : g < B) (hB : B' ≤ B) (hf : f ≤ f') : Own (z.setRow g c) B' f' v d F:=
  Own.deeper hf ((Own.gH h.own hg).lower hB)
theorem Og.apart {B E f B' E' f' : Nat} {z' : World} {v v' : Value} {d d' : C} {F F' : List Nat} (h : Og z B E f v d F) (h' : Og z' B' E' f' v' d' F') (hE : E ≤ B') : ∀ x ∈ F,x ∉ F':=fun x hx hx'=>by
  have h1:=(h.rng x hx).2;have h2:=(h'.rng x hx').1;omega
theorem Dk {α : Type} {row : α → List C} {k f n c : Nat} {A : Option Addr} {l : List α} (hr : ∀ x,(row x).length = k) (h : bf w f (.slice A n c) (.sl k l.length (l.flatMap row))) : ∃ f',mg row w f' A l k:=by
  obtain ⟨A',c',e,_,_,f',rfl,hk⟩:=bD hr h;injection e with e1 _ _;subst e1;exact ⟨f',hk⟩
end ty
namespace rot
open Go Go.RowKit ty
theorem yT {w : World} {f : Nat} {v : Value} {d : C} (h : bf w f v d) : v.oneCell' = true:=by
  cases f with
  | zero=>exact h.elim
  | succ f=>
    cases d with
    | int k n=>obtain ⟨rfl,_⟩:=h; rfl
    | bool b=>obtain rfl:=h; rfl
    | str s=>obtain ⟨rfl,_⟩:=h; rfl
    | sl k n cs=>obtain ⟨A,c,rfl,_⟩:=h; rfl
theorem fF {w : World} {f : Nat} {xs : List Value} {ds : List C} (h : aH w f xs ds) : ∀ u ∈ xs,u.oneCell' = true:=fun u hu=>by
  obtain ⟨m,hm,rfl⟩:=List.getElem_of_mem hu;exact yT (h.2 m _ _ (List.getElem?_eq_getElem hm) (List.getElem?_eq_getElem (by have:=h.1; omega)))
theorem vg {w : World} {f : Nat} {xs ys : List Value} {ds es : List C} (h : aH w f xs ds) (k : aH w f ys es) : aH w f (xs ++ ys) (ds ++ es):=by
  refine ⟨by simp [h.1,k.1],fun m u d hu hd=>?_⟩;by_cases hm : m < xs.length
  · rw [List.getElem?_append_left hm] at hu;rw [List.getElem?_append_left (by have:=h.1; omega)] at hd;exact h.2 m u d hu hd
  · rw [List.getElem?_append_right (by omega)] at hu;rw [List.getElem?_append_right (by have:=h.1; omega),← h.1] at hd;exact k.2 _ u d hu hd
theorem yU {w : World} {f : Nat} {xs : List Value} {ds : List C} (h : aH w f xs ds) (n : Nat) : aH w f (xs.take n) (ds.take n):=by
  refine ⟨by simp [h.1],fun m u d hu hd=>?_⟩;have hm : m < n:=(by have:=(List.getElem?_eq_some_iff.1 hu).1; simp at this; omega);rw [List.getElem?_take_of_lt hm] at hu hd;exact h.2 m u d hu hd
theorem uI {w : World} {f : Nat} {xs : List Value} {ds : List C} (h : aH w f xs ds) (n : Nat) : aH w f (xs.drop n) (ds.drop n):=by
  refine ⟨by simp [h.1],fun m u d hu hd=>?_⟩;rw [List.getElem?_drop] at hu hd;exact h.2 _ u d hu hd
theorem Mr {w : World} {B f k n : Nat} {e : TypeId} {v : Value} {xs : List Value} {cells : List C} (h : w.ownsRow B e k v n xs) (hl : aH w f xs cells) : bf w (f + 1) v (.sl k n cells):=by
  have hx:=h.1;rcases h.2 with ⟨rfl,rfl⟩ | ⟨g,c,cur,rfl,k1,k2,k3,k4,k5,k6⟩
  · exact ⟨none,0,rfl,Nat.le_refl _,by simp [maxLen],by rw [← hl.1]; exact hx,fun h=>absurd h (by omega)⟩
  · refine ⟨_,c,rfl,k3,k4,by rw [← hl.1]; exact hx,fun _=>⟨g,0,rfl,aX k2,fun m d hd=>?_⟩⟩;have hm : m < xs.length:=(by have:=(List.getElem?_eq_some_iff.1 hd).1; have:=hl.1; omega);refine ⟨xs[m],?_,hl.2 m _ _ (List.getElem?_eq_getElem hm) hd⟩;rw [Nat.zero_add,h.cellAt m (by omega)];exact List.getElem?_eq_getElem hm
theorem vk {w : World} {g n k : Nat} {xs : List Value} (h : jI w (some ⟨g,0,none⟩) n k xs) (hn : 1 ≤ n) : jI w (some ⟨g,k,none⟩) (n - 1) k (xs.drop k):=by
  have hl:=h.1;refine ⟨by rw [List.length_drop,hl,Nat.sub_mul,Nat.one_mul],fun h0=>?_⟩;obtain ⟨g',o,e,hg,hc⟩:=h.2 (by omega);injection e with e;injection e with e1 e2;subst e1 e2;refine ⟨g,k,rfl,hg,fun j u hu=>?_⟩;rw [List.getElem?_drop] at hu;have:=hc (k + j) u hu
  rwa [Nat.zero_add] at this
theorem vv {w w' : World} {A : Option Addr} {n k : Nat} {xs : List Value} (h : jI w A n k xs) (hs : w.heap.size ≤ w'.heap.size) (hk : ∀ q,q < w.heap.size → w'.heap[q]? = w.heap[q]?) : jI w' A n k xs:=by
  refine ⟨h.1,fun h0=>?_⟩;obtain ⟨g,o,e,hg,hc⟩:=h.2 h0;exact ⟨g,o,e,Nat.lt_of_lt_of_le hg hs,fun j u hu=>(World.cell?_of_block (hk g hg)).trans (hc j u hu)⟩
theorem yV {w : World} {A : Option Addr} {n c k f : Nat} {xs : List Value} {cells : List C} (h : jI w A n k xs) (hl : aH w f xs cells) (hc : n ≤ c) (hm : c ≤ maxLen) : bf w (f + 1) (.slice A n c) (.sl k n cells):=
  ⟨A,c,rfl,hc,hm,by rw [← hl.1]; exact h.1,fun h0=>by
    obtain ⟨g,o,e,hg,hcc⟩:=h.2 h0;refine ⟨g,o,e,hg,fun m d hd=>?_⟩;have hm : m < xs.length:=(by have:=(List.getElem?_eq_some_iff.1 hd).1; have:=hl.1; omega);exact ⟨xs[m],hcc m _ (List.getElem?_eq_getElem hm),hl.2 m _ _ (List.getElem?_eq_getElem hm) hd⟩⟩
theorem gB {w : World} {g n k : Nat} {xs : List Value} (h : jI w (some ⟨g,0,none⟩) n k xs) (hn : 0 < n) {j : Nat} {u : Value} (hu : xs[j]? = some u) : w.cell? ⟨g,j,none⟩ = some u:=by
  obtain ⟨g',o,e,hg,hc⟩:=h.2 hn;injection e with e;injection e with e1 e2;subst e1 e2;have:=hc j u hu
  rwa [Nat.zero_add] at this
theorem oM {w : World} {b k m : Nat} {e : TypeId} {xs : List Value} (hx : xs.length = m * k) (h : w.heap[b]? = some (.cells xs.toArray e (0,0))) : jI w (some ⟨b,0,none⟩) m k xs:=by
  refine ⟨hx,fun _=>⟨b,0,rfl,aX h,fun j u hu=>?_⟩⟩;rw [Nat.zero_add,cell_of_row _ _ _ _ _ _ h];simpa using hu
theorem yw {w w' : World} {o : Obj} {k m : Nat} {e : TypeId} {xs : List Value} (hx : xs.length = m * k) (h : ∀ q,q < (((w.alloc o).alloc (.cells xs.toArray e)).drew).heap.size → q ≠ w.heap.size → w'.heap[q]? = (((w.alloc o).alloc (.cells xs.toArray e)).drew).heap[q]?) : jI w' (some ⟨w.heap.size + 1,0,none⟩) m k xs:=by
  refine oM (e:=e) hx ((h _ (by show _ < ((w.alloc o).alloc _).heap.size; simp) (by omega)).trans ?_);have:=heap_alloc_new (w.alloc o) (.cells xs.toArray e);have e : (w.alloc o).heap.size = w.heap.size + 1:=(by simp);rw [e] at this;exact this
theorem yx {w w' : World} {o : Obj} {k m : Nat} {e : TypeId} {xs : List Value} (hx : xs.length = m * k) (h : ∀ q,q < (((w.alloc (.cells xs.toArray e)).alloc o).drew).heap.size → q ≠ w.heap.size + 1 → w'.heap[q]? = (((w.alloc (.cells xs.toArray e)).alloc o).drew).heap[q]?) : jI w' (some ⟨w.heap.size,0,none⟩) m k xs:=by
  refine oM (e:=e) hx ((h _ (by show _ < ((w.alloc _).alloc o).heap.size; simp <;> omega) (by omega)).trans ?_);have e2 : w.heap.size < (w.alloc (.cells xs.toArray e)).heap.size:=(by simp);exact (Below.heap_alloc (w.alloc (.cells xs.toArray e)) o w.heap.size e2).trans (heap_alloc_new w _)
theorem fD {k m : Nat} (w : World) (e : TypeId) (xs : List Value) (hx : xs.length = m * k) : jI (w.alloc (.cells xs.toArray e)) (some ⟨w.heap.size,0,none⟩) m k xs:=oM hx (heap_alloc_new w _)
theorem iH {P : Program} {ops : Array Oper} {o : Oper} {a : Act} {Y wd : World} {K : Act → World → Prop} {Q : Exit → Act → World → Prop} {E : Prop}
    (hg : o.guard = none) (s x : Operand) (t : TypeId) (hop : o.op = Op.call { callee:=Callee.builtin Builtin.append,args:=#[s,x],argTypes:=#[t,t] })
    (e : TypeId) (i : TypeInfo) (z : Value) (size bytes : Nat) (ht : P.underlying t = some (.slice e)) (hi : P.info? e = some i) (hz : i.zero = some z)
    (hsize : i.size = size) (hby : i.bytes = bytes) (hzs : z.cells.size = size) (hsz : 0 < size) (hbb : bytes ≤ 1000)
    (v : Value) (k m : Nat) (news us : List Value) (hs : a.eval s = v) (B : Nat) (hB : B ≤ Y.heap.size) (hown : Y.ownsRow B e size v k news)
    (A : Option Addr) (hx : a.eval x = .slice A m m) (hr : jI Y A m size us) (h1 : ∀ u ∈ us,u.oneCell' = true) (hk : k ≤ 64) (hm : m ≤ 2)
    (hK : ∀ v' w',w'.ownsRow B e size v' (k + m) (news ++ us) → Y.grownBy w' v.ownBlock → K (a.put o.dst v') w') :
    if Region.wanted o (yielded ops a.tmps) = true then Oper.wp P o a Y K Q else E:=by
  have Mq : (k + m) * bytes ≤ 140737488355328:=Nat.le_trans (Nat.mul_le_mul (show k + m ≤ 66 by omega) hbb) (by decide);refine dV hg s x t hop B e i z size bytes ht hi hz hsize hby hzs hsz v k _ hs hown A m m us hx hr h1 (by unfold maxLen; omega) Mq hB ?_;intro v' w' h1 h2 h3;exact hK v' w' h1 h2
def bn {α : Type} (l : List α) (m : Nat) : List α:=l.drop 1 ++ l.take m
theorem vw {α : Type} {l : List α} {m : Nat} : ∀ x ∈ bn l m,x ∈ l:=fun x hx=>by
  rcases List.mem_append.1 hx with h | h
  · exact List.mem_of_mem_drop h
  · exact List.mem_of_mem_take h
theorem lN {α : Type} {l : List α} {m : Nat} (h : m ≤ l.length) (h1 : 1 ≤ l.length) : (bn l m).length = l.length - 1 + m:=by
  unfold bn;rw [List.length_append,List.length_drop,List.length_take,Nat.min_eq_left h]
theorem uJ {α : Type} {row : α → List C} {k : Nat} (hr : ∀ x,(row x).length = k) (l : List α) (m : Nat) : (l.flatMap row).drop (m * k) = (l.drop m).flatMap row:=by
  induction m generalizing l with
  | zero=>simp
  | succ m ih=>
    cases l with
    | nil=>simp
    | cons a r=>
      rw [List.flatMap_cons,List.drop_succ_cons,← ih r,Nat.add_mul,Nat.one_mul,Nat.add_comm (m * k) k,← List.drop_drop,List.drop_left' (hr a)]
theorem yX {α : Type} {row : α → List C} {k : Nat} (hr : ∀ x,(row x).length = k) (l : List α) (m : Nat) : (l.flatMap row).take (m * k) = (l.take m).flatMap row:=by
  induction m generalizing l with
  | zero=>simp
  | succ m ih=>
    cases l with
    | nil=>simp
    | cons a r=>
      rw [List.flatMap_cons,List.take_succ_cons,List.flatMap_cons,← ih r,Nat.add_mul,Nat.one_mul,Nat.add_comm (m * k) k,List.take_append,hr a,Nat.add_sub_cancel_left,List.take_of_length_le (by rw [hr a]; omega)]
def nJ (r b : Nat) (z : World) (v : Value) (d : C) : Prop:=∃ f,∀ z' : World,z.heap.size ≤ z'.heap.size → (∀ k,k < z.heap.size → k ≠ b → k ≠ r → z'.heap[k]? = z.heap[k]?) → bf z' f v d
theorem nJ.next {r b : Nat} {z z2 : World} {v : Value} {d : C} (h : nJ r b z v d) (hs : z.heap.size ≤ z2.heap.size) (hk : ∀ k,k < z.heap.size → k ≠ b → k ≠ r → z2.heap[k]? = z.heap[k]?) : nJ r b z2 v d:=by
  obtain ⟨f,h⟩:=h;exact ⟨f,fun z' hs' hk'=>h z' (Nat.le_trans hs hs') fun k h1 h2 h3=>(hk' k (Nat.lt_of_lt_of_le h1 hs) h2 h3).trans (hk k h1 h2 h3)⟩
theorem nJ.below {r b : Nat} {z z2 : World} {v : Value} {d : C} (h : nJ r b z v d) (hb : Below z.heap.size z z2) : nJ r b z2 v d:=h.next hb.size fun k h1 _ _=>hb.block k h1
theorem nJ.set {r b j : Nat} {z : World} {u v : Value} {d : C} (h : nJ r b z v d) : nJ r b (z.setCell ⟨b,j,none⟩ u) v d:=
  h.next (by simp [World.setCell]) fun k _ h2 _=>Below.heap_setCell _ _ _ _ h2
theorem nJ.res {r b : Nat} {z : World} {v : Value} {d : C} (h : nJ r b z v d) (c : Array Value) : ∃ f,bf (z.setRow r c) f v d:=by
  obtain ⟨f,h⟩:=h;exact ⟨f,h _ (by simp [World.setRow]) fun k _ _ h3=>setRow_other z r k c h3⟩
theorem Ms {w2 z : World} {r b B f : Nat} {v : Value} {d : C} {F : List Nat} (h : Own w2 B f v d F) (hr : r < B) (hb : w2.heap.size ≤ b) (hs : w2.heap.size ≤ z.heap.size) (hz : ∀ k,k < w2.heap.size → z.heap[k]? = w2.heap[k]?) : nJ r b z v d:=
  ⟨f,fun z' hs' hk=>(Own.kept (fun k hk'=>by
    have h1:=h.range k hk';exact (hk k (Nat.lt_of_lt_of_le h1.2 hs) (by omega) (by omega)).trans (hz k h1.2)) h).lies⟩
theorem Ez {z : World} {r b B k n f : Nat} {e : TypeId} {v : Value} {xs : List Value} {cells : List C} (h : z.ownsRow B e k v n xs) (hB : b < B) (hr : r < B)
    (hl : ∀ z' : World,z.heap.size ≤ z'.heap.size → (∀ k,k < z.heap.size → k ≠ b → k ≠ r → z'.heap[k]? = z.heap[k]?) → aH z' f xs cells) : nJ r b z v (.sl k n cells):=
  ⟨f + 1,fun z' hs hk=>by
    refine Mr (B:=B) (e:=e) ⟨h.1,?_⟩ (hl z' hs hk);rcases h.2 with h0 | ⟨g,cap,cur,h0,h1,h2,h3⟩
    · exact .inl h0
    · exact .inr ⟨g,cap,cur,h0,h1,(hk g (aX h2) (by omega) (by omega)).trans h2,h3⟩⟩
theorem yJ {w : World} {B f c k n : Nat} {A : Option Addr} {cells : List C} {F : List Nat} (h : Own w B (f + 1) (.slice A n c) (.sl k n cells) F) : ∃ xs F',jI w A n k xs ∧ bq w B f xs cells F':=by
  obtain ⟨hl,⟨h0,h1,h2⟩ | ⟨g,c',cur,e,Fs,h0,h1,h2,h3,h4,hz,hF,h5,h6⟩⟩:=h
  · subst h1;have e : cells = []:=List.eq_nil_of_length_eq_zero (by rw [hl,Nat.zero_mul]);subst e;exact ⟨[],[],⟨by simp,fun h=>absurd h (by simp)⟩,bq.nil⟩
  · injection h0 with a1 _ a3;subst a1 a3
    have hcur : ∀ m,m < cells.length → ∃ u : Value,cur[m]? = some u:=fun m hm=>by
      obtain ⟨u,hu,_⟩:=h6 m _ _ (List.getElem?_eq_getElem hm) (List.getElem?_eq_getElem (by omega));exact ⟨u,hu⟩
    have hle : n * k ≤ cur.size:=(by rw [hz]; exact Nat.mul_le_mul_right _ h1);refine ⟨cur.toList.take (n * k),Fs.flatten,⟨by rw [List.length_take,Array.length_toList]; omega,fun _=>⟨g,0,rfl,aX h4,fun j u hu=>?_⟩⟩,by rw [List.length_take,Array.length_toList]; omega,Fs,h5,rfl,fun m u d Fm hu hd nM=>?_⟩
    · have hj : j < n * k:=(by have:=(List.getElem?_eq_some_iff.1 hu).1; simp at this; omega);rw [Nat.zero_add,cell_of_row _ _ _ _ _ _ h4];rw [List.getElem?_take_of_lt hj] at hu;simpa using hu
    · have hm : m < n * k:=(by have:=(List.getElem?_eq_some_iff.1 hd).1; omega);obtain ⟨u',hu',ho⟩:=h6 m d Fm hd nM;rw [List.getElem?_take_of_lt hm] at hu;have : cur[m]? = some u:=(by simpa using hu);rw [hu'] at this;injection this with this;exact this ▸ ho
theorem sH {w w' : World} {B f r b : Nat} {xs : List Value} {ds : List C} {F : List Nat} (h : bq w B f xs ds F) (hr : r < B) (hb : w.heap.size ≤ b) (hk : ∀ k,k < w.heap.size → k ≠ b → k ≠ r → w'.heap[k]? = w.heap[k]?) : aH w' f xs ds:=
  (bq.kept (fun x hx=>by have h1:=h.range x hx; exact hk x h1.2 (by omega) (by omega)) h).lies
theorem vB {w : World} {B f n c k : Nat} {A : Option Addr} {cells : List C} {F : List Nat} (h : Own w B f (.slice A n c) (.sl k n cells) F) (hn : 0 < n) : ∃ g,A = some ⟨g,0,none⟩ ∧ n ≤ c ∧ g < w.heap.size:=by
  cases f with
  | zero=>exact h.elim
  | succ f=>
    obtain ⟨_,⟨h0,h1,_⟩ | ⟨g,c',cur,e,Fs,h0,h1,h2,h3,h4,_⟩⟩:=h
    · omega
    · injection h0 with a1 _ a3;subst a3;exact ⟨g,a1,h1,aX h4⟩
theorem VL {xs : List Value} (h : 2 ≤ xs.length) : ∃ a b r,xs = a :: b :: r:=by
  match xs,h with
  | a :: b :: r,_=>exact ⟨a,b,r,rfl⟩
theorem BH {xs : List Value} (h : 3 ≤ xs.length) : ∃ a b c r,xs = a :: b :: c :: r:=by
  match xs,h with
  | a :: b :: c :: r,_=>exact ⟨a,b,c,r,rfl⟩
theorem PZ {xs : List Value} (h : 6 ≤ xs.length) : ∃ a b c d e f r,xs = a :: b :: c :: d :: e :: f :: r:=by
  match xs,h with
  | a :: b :: c :: d :: e :: f :: r,_=>exact ⟨a,b,c,d,e,f,r,rfl⟩
theorem BI {w : World} {B : Nat} {e : TypeId} {k n b j : Nat} {v u : Value} {xs : List Value} (h : w.ownsRow B e k v n xs) (hB : b < B) : (w.setCell ⟨b,j,none⟩ u).ownsRow B e k v n xs:=by
  refine ⟨h.1,?_⟩;rcases h.2 with h0 | ⟨g,cap,cur,h0,h1,h2,h3⟩
  · exact .inl h0
  · exact .inr ⟨g,cap,cur,h0,h1,(Below.heap_setCell _ _ _ _ (show g ≠ b by omega)).trans h2,h3⟩
structure tX (IT : TypeId) (w w2 : World) (b : Nat) (cur : List Value) (z : World) : Prop where
  gK : Below w.heap.size w z
  old : ∀ k,k < w2.heap.size → z.heap[k]? = w2.heap[k]?
  box : aC IT z b cur
  hi : w2.heap.size ≤ b
  lo : w.heap.size ≤ w2.heap.size
theorem tX.lt {IT : TypeId} {w w2 : World} {b : Nat} {cur : List Value} {z : World} (h : tX IT w w2 b cur z) : b < z.heap.size:=aX h.box
theorem tX.size {IT : TypeId} {w w2 : World} {b : Nat} {cur : List Value} {z : World} (h : tX IT w w2 b cur z) : w2.heap.size ≤ z.heap.size:=Nat.le_trans h.hi (Nat.le_of_lt h.lt)
theorem tX.call {IT : TypeId} {w w2 : World} {b : Nat} {cur : List Value} {z z2 : World} (h : tX IT w w2 b cur z) (hb : Below z.heap.size z z2) : tX IT w w2 b cur z2:=
  ⟨ah h.gK hb h.gK.size,fun k hk=>(hb.block k (Nat.lt_of_lt_of_le hk h.size)).trans (h.old k hk),h.box.below hb,h.hi,h.lo⟩
theorem tX.put {IT : TypeId} {w w2 : World} {b : Nat} {cur : List Value} {z : World} (h : tX IT w w2 b cur z) (j : Nat) (u : Value) : tX IT w w2 b (cur.set j u) (z.setCell ⟨b,j,none⟩ u):=
  ⟨h.gK.setCell (Nat.le_trans h.lo h.hi) _,fun k hk=>(Below.heap_setCell _ _ _ _ (by have:=h.hi; show k ≠ b; omega)).trans (h.old k hk),aC.put h.box j u,h.hi,h.lo⟩
theorem tX.row {IT IT2 : TypeId} {w w2 : World} {b g : Nat} {cur vs : List Value} {z : World} (h : tX IT w w2 b cur z) (hr : aC IT2 w2 g vs) : aC IT2 z g vs:=(h.old g (aX hr)).trans hr
theorem tX.yY {IT : TypeId} {w w2 : World} {b f B : Nat} {cur : List Value} {z : World} {v : Value} {d : C} {F : List Nat} (h : tX IT w w2 b cur z) (hl : Own w2 B f v d F) (hr : w.heap.size < B) : nJ w.heap.size b z v d:=Ms hl hr h.hi h.size h.old
theorem tX.agree {IT : TypeId} {w w2 : World} {b : Nat} {cur : List Value} {z z' : World} (h : tX IT w w2 b cur z) (hk : ∀ k,k < z.heap.size → k ≠ b → k ≠ w.heap.size → z'.heap[k]? = z.heap[k]?) : ∀ k,k < w2.heap.size → k ≠ b → k ≠ w.heap.size → z'.heap[k]? = w2.heap[k]?:=fun k h1 h2 h3=>
  (hk k (Nat.lt_of_lt_of_le h1 h.size) h2 h3).trans (h.old k h1)
theorem tX.turned {α : Type} {row : α → List C} {k m : Nat} (hr : ∀ x,(row x).length = k) {l : List α} {IT e : TypeId} {w w2 X w6 : World} {b f B : Nat} {cur raw : List Value} {v6 : Value} {F : List Nat} (h : tX IT w w2 b cur X) (j : Nat) (hl : bq w2 B f raw (l.flatMap row) F) (hB : w.heap.size < B) (hm : m ≤ l.length) (h1 : 1 ≤ l.length)
    (hown : w6.ownsRow X.heap.size e k v6 (l.length - 1 + m) (raw.drop k ++ raw.take (m * k))) (hb : Below X.heap.size X w6) :
    tX IT w w2 b (cur.set j v6) (w6.setCell ⟨b,j,none⟩ v6) ∧ nJ w.heap.size b (w6.setCell ⟨b,j,none⟩ v6) v6 (.sl k (bn l m).length ((bn l m).flatMap row)) ∧ ∃ A c,v6 = .slice A (bn l m).length c:=by
  have h6:=(h.call hb).put j v6;have hwX : w.heap.size < X.heap.size:=(by have:=h.lt; have:=h.hi; have:=h.lo; omega);refine ⟨h6,?_,?_⟩
  · have h7:=BI (j:=j) (u:=v6) hown h.lt;rw [lN hm h1];refine Ez (f:=f) h7 h.lt hwX fun z' hs hk=>?_;have hz:=sH hl hB h.hi (h6.agree hk);have h2:=vg (uI hz (1 * k)) (yU hz (m * k));rw [uJ hr,yX hr,← List.flatMap_append,Nat.one_mul] at h2;exact h2
  · rw [lN hm h1];rcases hown.2 with ⟨rfl,h0⟩ | ⟨g,cap,cur,rfl,_⟩
    · exact ⟨none,0,by rw [h0]⟩
    · exact ⟨_,cap,rfl⟩
theorem tX.Jh {α : Type} {row : α → List C} {k : Nat} (hr : ∀ x,(row x).length = k) {l : List α} {IT e : TypeId} {w w2 X w6 : World} {b f f2 B : Nat} {cur raw xs : List Value} {v6 : Value} {F F5 : List Nat} (h : tX IT w w2 b cur X) (j : Nat) (hl : bq w2 B f raw (l.flatMap row) F) (hB : w.heap.size < B) (h1 : 1 ≤ l.length)
    (hxs : bq w6 X.heap.size f2 xs ((l.drop 1).flatMap row) F5) (hown : w6.ownsRow X.heap.size e k v6 (l.length - 1 + 1) (xs ++ raw.take (1 * k))) (hb : Below X.heap.size X w6) :
    tX IT w w2 b (cur.set j v6) (w6.setCell ⟨b,j,none⟩ v6) ∧ nJ w.heap.size b (w6.setCell ⟨b,j,none⟩ v6) v6 (.sl k (bn l 1).length ((bn l 1).flatMap row)) ∧ ∃ A c,v6 = .slice A (bn l 1).length c:=by
  have h6:=(h.call hb).put j v6;have hwX : w.heap.size < X.heap.size:=(by have:=h.lt; have:=h.hi; have:=h.lo; omega);refine ⟨h6,?_,?_⟩
  · have h7:=BI (j:=j) (u:=v6) hown h.lt;rw [lN h1 h1];refine Ez (f:=f + f2) h7 h.lt hwX fun z' hs hk=>?_;have hz:=sH hl hB h.hi (h6.agree hk)
    have hx : aH z' f2 xs ((l.drop 1).flatMap row):=(bq.kept (fun x hx=>by
      have h8:=hxs.range x hx;have h9:=h.lt;exact (hk x (by simpa [World.setCell] using h8.2) (by omega) (by omega)).trans (Below.heap_setCell _ _ _ _ (show x ≠ b by omega))) hxs).lies
    have h2:=vg (hx.deeper (f':=f + f2) (by omega)) ((yU hz (1 * k)).deeper (f':=f + f2) (by omega));rw [yX hr,← List.flatMap_append] at h2;exact h2
  · rw [lN h1 h1];rcases hown.2 with ⟨rfl,h0⟩ | ⟨g,cap,cur,rfl,_⟩
    · exact ⟨none,0,by rw [h0]⟩
    · exact ⟨_,cap,rfl⟩
end rot
section
open Go Go.RowKit
theorem Qa {w : World} {base size n cap : Nat} {e : TypeId} {z : Array Value} {xs news : List Value} (h : (xs ++ news).length = n * size) (hz : z.size = size) (hb : base ≤ w.heap.size) (h1 : n ≤ cap) (h2 : cap ≤ maxLen) :
    (w.drew.alloc (.cells (xs.toArray ++ news.toArray ++ Builtin.zeroCells z (cap - n)) e)).ownsRow base e size (.slice (some ⟨w.heap.size,0,none⟩) n cap) n (xs ++ news):=by
  refine ⟨h,.inr ⟨w.heap.size,cap,_,rfl,hb,heap_alloc_new w.drew _,h1,h2,?_,?_⟩⟩
  · have e1 : (xs.toArray ++ news.toArray).size = n * size:=(by rw [← h]; simp);rw [Array.size_append,e1,size_zeroCells,hz,← Nat.add_mul]
    congr 1
    omega
  · rw [Array.toList_append,Array.toList_append];show (((xs ++ news) ++ _).take (n * size)) = _;rw [← h];exact List.take_left
theorem qw {P : Program} (w : World) (base : Nat) (t ty e e0 : TypeId) (i : TypeInfo) (z : Value) (size bytes : Nat) (ht : P.underlying t = some (.slice e)) (hi : P.info? e = some i) (hz : i.zero = some z)
    (hsize : i.size = size) (hby : i.bytes = bytes) (hzs : z.cells.size = size) (hsz : 0 < size) (v : Value) (n : Nat) (xs : List Value) (hown : w.ownsRow base e0 size v n xs)
    (a : Addr) (m c : Nat) (news : List Value) (hl : news.length = m * size) (hnews : ∀ j u,news[j]? = some u → w.cell? (a.add j) = some u) (h1 : ∀ u ∈ news,u.oneCell' = true)
    (h63 : n + m ≤ maxLen) (hbytes : (n + m) * bytes ≤ 140737488355328) (hbase : base ≤ w.heap.size) :
    ∃ v' w' e1,(Builtin.append_ #[t,t] ty #[v,.slice (some a) m c]).run P w = .ok v' w' ∧ w'.ownsRow base e1 size v' (n + m) (xs ++ news) ∧ w.grownBy w' v.ownBlock ∧ (v'.ownBlock = v.ownBlock ∨ v'.ownBlock = some w.heap.size):=by
  have hsmall : n + m ≤ 9223372036854775807:=(by simp only [maxLen] at h63; omega);rcases hown.2 with ⟨rfl,rfl⟩ | ⟨g,cap,cur,rfl,hbg,hg,hnc,hcm,hcs,htake⟩
  · obtain ⟨v',w',r0,r1,r2,_,r4⟩:=run_append_own_at (P:=P) w base t ty e i z size bytes ht hi hz hsize hby hzs hsz _ 0 xs ⟨hown.1,.inl ⟨rfl,rfl⟩⟩ a m c news hl hnews h1 h63 hbytes hbase;exact ⟨v',w',e,r0,r1,r2,r4⟩
  · subst hsize;subst hby;have hlen : (xs ++ news).length = (n + m) * i.size:=(by rw [List.length_append,hown.1,hl,Nat.add_mul]);by_cases hroom : n + m ≤ cap
    · have hfit : n * i.size + news.length ≤ cur.size:=(by rw [hl,hcs,← Nat.add_mul]; exact Nat.mul_le_mul_right _ hroom)
      have hr : (Builtin.append_ #[t,t] ty #[.slice (some ⟨g,0,none⟩) n cap,.slice (some a) m c]).run P w =
          .ok (.slice (some ⟨g,0,none⟩) (n + m) cap) (w.setRow g (cur.toList.take (n * i.size) ++ news ++ cur.toList.drop (n * i.size + news.length)).toArray):=by
        have hf:=run_firstCells_some (P:=P) w i.size m a m c news hl hnews;have hst:=run_storeCells_at P g (n * i.size) e0 news 0 cur w hg (by simpa using hfit) h1;simp only [Nat.add_zero] at hst;simp [Builtin.append_,run_underlying ht,sizeOf,typeInfo,hi,Builtin.lenOf,hroom,hf,Addr.add_lit,hst]
      refine ⟨_,_,e0,hr,⟨hlen,.inr ⟨g,cap,_,rfl,hbg,setRow_heap w g cur _ e0 _ hg,hroom,hcm,?_,?_⟩⟩,⟨rfl,rfl,rfl,by simp,fun k _ hk=>setRow_other w g k _ (fun h=>hk (by simp [Value.ownBlock,h]))⟩,.inl rfl⟩
      · simp only [List.size_toArray,List.length_append,List.length_take,List.length_drop,Array.length_toList];omega
      · rw [htake,← hlen];exact List.take_left
    · have holds : ∀ j u,xs[j]? = some u → w.cell? ((⟨g,0,none⟩ : Addr).add j) = some u:=hown.cells (g:=g) rfl;have hr:=run_append_grow (P:=P) w t ty e i z ht hi hz ⟨g,0,none⟩ n cap xs hown.1 holds a m c news hl hnews (by omega) (by omega) (growslice_fits (by omega) hbytes);exact ⟨_,_,e,hr,Qa hlen hzs hbase (grownCap_ge w (n + m) cap e) (grownCap_le_maxLen w (n + m) cap e h63),⟨rfl,rfl,rfl,by simp,fun k hk _=>Below.heap_alloc w.drew _ k hk⟩,.inr rfl⟩
end
end Go.Proofs.YtcfbkfmkjggcdaaGreatDoor
