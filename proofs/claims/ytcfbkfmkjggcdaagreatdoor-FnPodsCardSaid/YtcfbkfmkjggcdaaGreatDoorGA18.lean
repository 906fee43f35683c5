/- Merged: CofNeedI CofToleranceI SortK SortI Srtbl CmpWS TaintI CmpTI AscTaint OksTaintI. -/
import Derived.Test.YtcfbkfmkjggcdaaGreatDoorGA12
import Derived.Test.YtcfbkfmkjggcdaaGreatDoorGA4
import Derived.Test.YtcfbkfmkjggcdaaGreatDoorGA14
import Derived.Test.YtcfbkfmkjggcdaaGreatDoorGA13
import Derived.Test.YtcfbkfmkjggcdaaGreatDoorGA5
import Derived.Shelf.SlSortCmp.NoneTotal
import Derived.Test.YtcfbkfmkjggcdaaGreatDoorGA16
import Derived.Test.YtcfbkfmkjggcdaaGreatDoorGA8
import Derived.Test.YtcfbkfmkjggcdaaGreatDoorGA6
import Derived.Test.YtcfbkfmkjggcdaaGreatDoorGA0
import Derived.Test.YtcfbkfmkjggcdaaGreatDoorGA17
import Derived.Test.YtcfbkfmkjggcdaaGreatDoorGA11
import Derived.Test.YtcfbkfmkjggcdaaGreatDoorGA1
import Derived.Laws.Cover1
import Derived.Test.YtcfbkfmkjggcdaaGreatDoorGA9
import Derived.Test.YtcfbkfmkjggcdaaGreatDoorGA7
import Derived.Test.YtcfbkfmkjggcdaaGreatDoorGA3
set_option linter.unusedVariables false
namespace Go.Proofs.YtcfbkfmkjggcdaaGreatDoor
namespace need
open Go.ChangeShapes Go.WideShapes Go.ChangeAt Go.RowKit ty
set_option maxRecDepth 100000 in
theorem Ec (l : List Need) (A : Option Addr) (c : Nat) (raw : List Value) (w : World) (hc1 : l.length ≤ c) (hc2 : c ≤ 9223372036854775807) (hr : jI w A l.length 3 raw) (hone : ∀ u ∈ raw,u.oneCell' = true) (hn : l.length ≤ 1048576) :
    Calls Tryz.prog 161 #[.slice A l.length c] w fun e w'=>∃ g c,e = .returned (.slice (some ⟨g,0,none⟩) l.length c) ∧ w'.ownsRow w.heap.size 69 3 (.slice (some ⟨g,0,none⟩) l.length c) l.length (raw) ∧ Below w.heap.size w w':=by
  have Hr:=Lib.hid hr;have QV:=Lib.hid hone;clear hr hone;obtain ⟨i0,hi,hz0,hz1,hz2⟩:=info_parts TryzinfoNeed
  have kX : Hid ((w.alloc (.cells #[] 69)).ownsRow w.heap.size 69 3 (.slice (some ⟨w.heap.size,0,none⟩) 0 0) 0 []):=
    World.ownsRow_lit w #[] 0 (Nat.le_refl _) (by simp [maxLen]) rfl
  have Hb:=Lib.hid (fun o=>(Below.refl w.heap.size w).alloc (Nat.le_refl _) o);have hn2:=Lib.hid hn;clear hn;go_enter Tryz.func161,Tryz.ntmps161;go_wp2_with (first | (at_builtin; refine aB rfl (.tmp 3) (.tmp 4) 25 rfl w.heap.size 69 i0 _ 3 48 Tryz.underlying25 hi hz0 hz1 hz2 rfl (by decide) _ 0 [] rfl kX.out A l.length c (raw) rfl (Hr.out.below (Hb.out _)) (QV.out) (by have:=hn2.out; unfold maxLen; omega) (by have:=hn2.out; omega) (by simp) ?_; intro v1 w1 o1 o2 o3) | fail)
  try rw [Nat.zero_add,List.nil_append] at o1
  have hbel : Below w.heap.size w w1:=(Hb.out _).grown o2 (by simp) (fun q hq=>(kX.out.lt q hq).1)
  obtain ⟨x,hx⟩ : ∃ x,v1.ownBlock = some x:=by
    rcases o3 with e | e
    · exact ⟨_,e.trans rfl⟩
    · exact ⟨_,e⟩
  obtain ⟨c1,rfl,_⟩:=iB o1 hx;have O:=Lib.hid (show ∃ g c,Ending.returned (.slice (some ⟨x,0,none⟩) l.length c1) = .returned (.slice (some ⟨g,0,none⟩) l.length c) ∧ w1.ownsRow w.heap.size 69 3 (.slice (some ⟨g,0,none⟩) l.length c) l.length (raw) ∧ Below w.heap.size w w1 from ⟨x,c1,rfl,o1,hbel⟩);clear o1 o2 o3 hx hbel kX Hb Hr;go_wp2_with fail;go_ret;exact O.out
end need
namespace taint
open Go.ChangeShapes Go.WideShapes Go.ChangeAt Go.RowKit ty
set_option maxRecDepth 100000 in
theorem om (l : List aj) (f : Nat) (v : Value) (w : World) (h : bf w f v (.sl 4 l.length (l.flatMap aj.row))) (hn : l.length ≤ 1048576) :
    Calls Tryz.prog 106 #[v] w fun e w'=>∃ g c,e = .returned (.slice (some ⟨g,0,none⟩) l.length c) ∧ w'.ownsRow w.heap.size 86 4 (.slice (some ⟨g,0,none⟩) l.length c) l.length (l.flatMap aj.cells) ∧ Below w.heap.size w w':=by
  obtain ⟨A,c,rfl,hc1,hc2,f',rfl,hk⟩:=bD aj.au h;unfold maxLen at hc2;have Hr:=Lib.hid (iI hk).1;clear h hk;obtain ⟨i0,hi,hz0,hz1,hz2⟩:=info_parts TryzinfITolerance
  have kX : Hid ((w.alloc (.cells #[] 86)).ownsRow w.heap.size 86 4 (.slice (some ⟨w.heap.size,0,none⟩) 0 0) 0 []):=
    World.ownsRow_lit w #[] 0 (Nat.le_refl _) (by simp [maxLen]) rfl
  have Hb:=Lib.hid (fun o=>(Below.refl w.heap.size w).alloc (Nat.le_refl _) o);have hn2:=Lib.hid hn;clear hn;go_enter Tryz.func106,Tryz.ntmps106;go_wp2_with (first | (at_builtin; refine aB rfl (.tmp 3) (.tmp 4) 26 rfl w.heap.size 86 i0 _ 4 48 Tryz.underlying26 hi hz0 hz1 hz2 rfl (by decide) _ 0 [] rfl kX.out A l.length c (l.flatMap aj.cells) rfl (Hr.out.below (Hb.out _)) (flt.eP aj.cells_one l) (by have:=hn2.out; unfold maxLen; omega) (by have:=hn2.out; omega) (by simp) ?_; intro v1 w1 o1 o2 o3) | fail)
  try rw [Nat.zero_add,List.nil_append] at o1
  have hbel : Below w.heap.size w w1:=(Hb.out _).grown o2 (by simp) (fun q hq=>(kX.out.lt q hq).1)
  obtain ⟨x,hx⟩ : ∃ x,v1.ownBlock = some x:=by
    rcases o3 with e | e
    · exact ⟨_,e.trans rfl⟩
    · exact ⟨_,e⟩
  obtain ⟨c1,rfl,_⟩:=iB o1 hx;have O:=Lib.hid (show ∃ g c,Ending.returned (.slice (some ⟨x,0,none⟩) l.length c1) = .returned (.slice (some ⟨g,0,none⟩) l.length c) ∧ w1.ownsRow w.heap.size 86 4 (.slice (some ⟨g,0,none⟩) l.length c) l.length (l.flatMap aj.cells) ∧ Below w.heap.size w w1 from ⟨x,c1,rfl,o1,hbel⟩);clear o1 o2 o3 hx hbel kX Hb Hr;go_wp2_with fail;go_ret;exact O.out
end taint
section
open Go Go.RowKit Go.Sort
variable {α : Type} [Inhabited α]
theorem Ab {enc : α → List Value} {k : Nat} (hk : ∀ x,(enc x).length = k) (d : List α) : (flatK enc k d.toArray).toList = d.flatMap enc:=by
  apply List.ext_getElem?;intro t;by_cases ht : t < d.length * k
  · have k0 : 0 < k:=by
                          rcases Nat.eq_zero_or_pos k with h | h; · subst h; simp at ht
                          · exact h
    have hi : t / k < d.length:=(Nat.div_lt_iff_lt_mul k0).2 ht;have hm : t % k < k:=Nat.mod_lt _ k0;have h1:=gq (f:=enc) (sz:=k) hk d (t / k) (t % k) _ (List.getElem?_eq_getElem hi) hm;rw [show t / k * k + t % k = t from Nat.div_add_mod' t k] at h1;have hs : t < (flatK enc k d.toArray).size:=(by simpa using ht);have h2:=get_flatK enc k d.toArray t (by simpa using ht);rw [getElem!_pos _ t hs] at h2;rw [Array.getElem?_toList,Array.getElem?_eq_getElem hs,h2,h1];have e : d.toArray[t / k]! = d[t / k]:=(by rw [getElem!_pos _ _ (by simpa using hi)]; simp);rw [e];have hl : t % k < (enc d[t / k]).length:=(by rw [hk]; exact hm);rw [List.getElem?_eq_getElem hl,getElem!_pos (enc d[t / k]) (t % k) hl]
  · rw [List.getElem?_eq_none (by simp; omega),List.getElem?_eq_none (by rw [aM (f:=enc) (sz:=k) hk]; omega)]
theorem qj {w : World} {B : Nat} {e : TypeId} {k g c : Nat} {enc : α → List Value} (hk : ∀ x,(enc x).length = k) {d : List α}
    (h : w.ownsRow B e k (.slice (some ⟨g,0,none⟩) d.length c) d.length (d.flatMap enc)) : HoldsK enc k w g 0 d.toArray:=by
  intro j hj;have hj' : j < d.length * k:=(by simpa using hj);refine ⟨?_,?_⟩
  · have h1:=h.cells (g:=g) rfl j (d.flatMap enc)[j]! (by
      rw [List.getElem?_eq_getElem (by rw [aM (f:=enc) (sz:=k) hk]; exact hj'),getElem!_pos _ _ (by rw [aM (f:=enc) (sz:=k) hk]; exact hj')])
    rw [Addr.add_lit] at h1;rw [h1]
    congr 1
    have e:=Ab hk d;show _ = (flatK enc k d.toArray)[j]!;rw [getElem!_pos (flatK enc k d.toArray) j hj,← Array.getElem_toList,getElem!_pos (d.flatMap enc) j (by rw [aM (f:=enc) (sz:=k) hk]; exact hj')];simp [e]
  · rcases h.2 with ⟨h0,_⟩ | ⟨g',cap,cur,hv,_,hb,_⟩
    · cases h0
    · injection hv with hv;injection hv with hv;injection hv with hv;subst hv;simp [World.frozen?,hb]
theorem Ed {w : World} {g n k : Nat} {os : Array Obj} {cur : Array Value} {e : TypeId} {fr : Nat × Nat} (enc : α → List Value) (d : Array α) (hb : w.heap[g]? = some (.cells cur e fr)) :
    (sortWorldK enc k w g 0 n d os).heap[g]? = some (.cells (putCells id 0 (flatK enc k d) cur) e fr):=by
  have hg : g < w.heap.size:=(Array.getElem?_eq_some_iff.1 hb).1;unfold sortWorldK putRowK;rw [heap_grow_old _ _ (by simpa using hg)];simp [putRow,mapBlock,Sort.ahead,Array.getElem?_modify,hb,onCells]
theorem gy {w : World} {g n k : Nat} {os : Array Obj} (enc : α → List Value) (d : Array α) : w.grownBy (sortWorldK enc k w g 0 n d os) (some g):=by
  refine ⟨rfl,rfl,rfl,by simp [sortWorldK,putRowK],fun q hq hne=>?_⟩;unfold sortWorldK putRowK;rw [heap_grow_old _ _ (by simpa using hq)];have : g ≠ q:=fun e=>hne (by rw [e]);simp [putRow,mapBlock,Sort.ahead,Array.getElem?_modify,this]
theorem Ad (cur F : Array Value) (h : F.size ≤ cur.size) : (putCells id 0 F cur).toList.take F.size = F.toList:=by
  apply List.ext_getElem?;intro j;by_cases hj : j < F.size
  · rw [List.getElem?_take_of_lt hj,Array.getElem?_toList];simp [putCells,hj,show j < cur.size by omega]
  · rw [List.getElem?_take_eq_none (by omega),List.getElem?_eq_none (by simp; omega)]
theorem oo {w : World} {B : Nat} {e : TypeId} {k g c n : Nat} {os : Array Obj} {enc : α → List Value} (hk : ∀ x,(enc x).length = k) {d d2 : List α} (hl : d2.length = d.length)
    (h : w.ownsRow B e k (.slice (some ⟨g,0,none⟩) d.length c) d.length (d.flatMap enc)) :
    (sortWorldK enc k w g 0 n d2.toArray os).ownsRow B e k (.slice (some ⟨g,0,none⟩) d2.length c) d2.length (d2.flatMap enc):=by
  rcases h.2 with ⟨h0,_⟩ | ⟨g',cap,cur,hv,hB,hb,h1,h2,h3,h4⟩
  · cases h0
  · injection hv with hv _ hc;injection hv with hv;injection hv with hv;subst hv hc;refine ⟨aM hk d2,.inr ⟨g,c,_,rfl,hB,Ed enc d2.toArray hb,by omega,h2,by simp [putCells,h3],?_⟩⟩;have hs : (flatK enc k d2.toArray).size = d2.length * k:=(by simp);rw [← hs,Ad _ _ (by rw [hs,h3,hl]; exact Nat.mul_le_mul_right _ h1)];exact Ab hk d2
end
namespace lab
open Go.ChangeShapes Go.WideShapes Go.ChangeAt Go.RowKit ty
open Go.Sort (SWO HoldsK PermIn SortedIn grow)
instance : Inhabited Label:=⟨⟨⟨#[]⟩,⟨#[]⟩⟩⟩
theorem Ee (x y : Label) : ltOf KP x y = aJ x.key y.key:=by
  unfold ltOf KP aJ;rw [zS,ByteArray.toList_eq,ByteArray.toList_eq]
theorem abH : SWO (ltOf KP) where
  irrefl x:=by rw [Ee]; exact lS _
  trans x y z h1 h2:=by rw [Ee] at *; exact iW _ _ _ h1 h2
  ntrans x y z h1 h2:=by rw [Ee] at *; exact nR _ _ _ h1 h2
set_option maxRecDepth 100000 in
theorem Oo (l : List Label) (B g c : Nat) (w : World) (hown : w.ownsRow B 65 2 (.slice (some ⟨g,0,none⟩) l.length c) l.length (lvals l)) (hn : l.length ≤ 1048576) :
    Calls Tryz.prog 92 #[.slice (some ⟨g,0,none⟩) l.length c,.func (.func 93) #[] #[]] w fun e w'=>e = .returned (.tuple #[]) ∧
      ∃ d : List Label,List.Perm d l ∧ d.Pairwise Weak ∧ w'.ownsRow B 65 2 (.slice (some ⟨g,0,none⟩) l.length c) d.length (lvals d) ∧ w.grownBy w' (some g):=by
  by_cases h0 : l = []
  · subst h0;refine (AnyF.slices_SortFunc_none Tryz.sortLab (some ⟨g,0,none⟩) c _ w).mono ?_;rintro e w' ⟨rfl,rfl⟩;exact ⟨rfl,[],List.Perm.refl _,List.Pairwise.nil,hown,World.grownBy.refl _ _⟩
  have eg : ∀ args w,(callFunc 93 args).run Tryz.prog w = .ok (.enter 93 args) w:=enters_of Tryz.func93 (by kernel_rfl) rfl;have hcon:=AnyQ.slices_SortFunc Tryz.sortLab 2 Tryz.isAgg65 Tryz.sizeOf65 Label.cells (fun _=>rfl) (fun x v hv=>by simp [Label.cells] at hv; rcases hv with rfl | rfl <;> rfl) KP abH 93 #[] g 0 c l.toArray w eg (fun _ _ _ _ x y=>rH x y _) (qj (enc:=Label.cells) (k:=2) (fun _=>rfl) hown) (hown.lt g rfl).2 (by simp; omega);have hs : l.toArray.size = l.length:=(by simp);rw [hs] at hcon;refine hcon.mono ?_;rintro e w' ⟨rfl,d',n,os,hp,hso,rfl⟩;obtain ⟨hsz,_,hperm⟩:=hp;rw [← hs,Array.extract_size] at hperm;have e2 : d'.extract 0 l.toArray.size = d':=(by rw [← hsz]; exact Array.extract_size);rw [e2] at hperm;have hl : d'.toList.length = l.length:=(by rw [Array.length_toList,hsz,hs]);refine ⟨rfl,d'.toList,by simpa using hperm,?_,?_,gy _ _⟩
  · rw [List.pairwise_iff_getElem];intro i j hi hj hij;have h1:=hso i j (Nat.zero_le _) hij (by omega);have hi' : i < d'.size:=(by simpa using hi);have hj' : j < d'.size:=(by simpa using hj);rw [getElem!_pos d' i hi',getElem!_pos d' j hj',Ee] at h1;exact h1
  · have:=oo (n:=n) (os:=os) (enc:=Label.cells) (fun _=>rfl) hl hown;rw [hl] at this ⊢;exact this
set_option maxRecDepth 100000 in
set_option maxHeartbeats 4000000 in
theorem CO (l : List Label) (f : Nat) (v : Value) (w : World) (h : bf w f v (.sl 2 l.length (l.flatMap Label.row))) (hz : Small l) (hn : l.length ≤ 1048576) :
    Calls Tryz.prog 34 #[v] w fun e w'=>dB w w' e 2 Label.row (eB l):=by
  have hwf : ∀ x ∈ l,x.Wf:=by
    obtain ⟨A,c,_,_,_,f',rfl,hk⟩:=bD Label.au h;exact (gI hk).2
  have HC:=Lib.hid (fun w' hb=>uf l f v w' (h.below (w:=w) hb) hn);have Hn:=Lib.hid hn;have eU:=Lib.hid hwf;clear h hz hn hwf;go_enter Tryz.func34,Tryz.ntmps34;go_wp2_with fail;refine (HC.out w (Below.refl _ _)).mono ?_;rintro e w1 ⟨g,c,rfl,hown,hb1⟩;have HS:=Lib.hid (Oo l w.heap.size g c w1 hown Hn.out);have Hb1:=Lib.hid hb1;have Hg:=Lib.hid (hown.lt g rfl).1;clear hown hb1;go_wp2_with fail;refine HS.out.mono ?_;rintro e w2 ⟨rfl,d,hp,hw,hown,hgr⟩;have hl : d.length = l.length:=hp.length_eq;rw [← hl];rw [← hl] at hown;have YL : ∀ x ∈ d,x.Wf:=fun x hx=>eU.out x (hp.mem_iff.1 hx);obtain ⟨F,ho,hnd,_⟩:=gQ hown YL
  have Hb2:=Lib.hid (Hb1.out.grown hgr Hb1.out.size (fun q hq=>by
    simp at hq; subst hq; exact Hg.out))
  have HL:=Lib.hid (qz d _ _ w2 ho.lies);have HR:=Lib.hid (fun w3 (hb : Below w2.heap.size w2 w3)=>show dB w w3 (.returned (.tuple #[.slice (some ⟨g,0,none⟩) d.length c,.bool true])) 2 Label.row (d,true) from ⟨_,1,F,rfl,ho.below hb,hnd,ah Hb2.out hb Hb2.out.size⟩);have HP:=Lib.hid hp;have HW:=Lib.hid hw;clear hl hown hgr ho hnd HS YL hp hw;by_cases hP : dw d
  · rw [aQ hP] at HL;have HE:=Lib.hid (vG HP.out HW.out hP);clear hP;go_wp2_with fail;refine HL.out.mono ?_;rintro e w3 ⟨rfl,hb3⟩;go_wp2_with fail
    go_ret2
    rw [HE.out];exact HR.out _ hb3
  · rw [aP hP] at HL;have HE:=Lib.hid (EO HP.out HW.out hP);clear hP HR;go_wp2_with fail;refine HL.out.mono ?_;rintro e w3 ⟨rfl,hb3⟩;have Hb3:=Lib.hid (ah Hb2.out hb3 Hb2.out.size);clear hb3;go_wp2_with fail;refine (HC.out w3 Hb3.out).mono ?_;rintro e w4 ⟨g2,c2,rfl,hown,hb4⟩;obtain ⟨F2,ho,hnd,_⟩:=gQ (bR hown Hb3.out.size) eU.out;have HR:=Lib.hid (show dB w w4 (.returned (.tuple #[.slice (some ⟨g2,0,none⟩) l.length c2,.bool false])) 2 Label.row (l,false) from ⟨_,1,F2,rfl,ho,hnd,ah Hb3.out hb4 Hb3.out.size⟩);clear hown hb4 ho hnd;go_wp2_with fail
    go_ret2
    rw [HE.out];exact HR.out
end lab
namespace need
open Go.ChangeShapes Go.WideShapes Go.ChangeAt Go.RowKit ty lab
set_option maxRecDepth 100000 in
theorem Oq (x : Need) (f : Nat) (us : List Value) (w : World) (h : aH w f us x.row) :
    Calls Tryz.prog 159 #[.agg us.toArray] w fun e w'=>e = .returned (.bool (decide ((40 : Int) < (x.values.length : Int)))) ∧ Below w.heap.size w w':=by
  obtain ⟨A,c,rfl,_⟩:=Need.opened h;have HB:=Lib.hid (AU.new 69 w [.string x.key,.int .i64 x.op,.slice A x.values.length c]);have p2:=HB.out.cell (j:=2) rfl;clear h;generalize x.key = k at *;generalize x.op = o at *;generalize x.values.length = n at *;go_enter Tryz.func159,Tryz.ntmps159;go_wp2_with fail;go_ret;exact ⟨rfl,HB.out.1⟩
theorem QW {l : List Need} {k : Nat} (h : k < l.length) (h2 : 40 < l[k].values.length) : ¬ lC l l.length:=fun hf=>by
  have:=hf k h h;omega
set_option maxRecDepth 100000 in
set_option maxHeartbeats 8000000 in
theorem Ot (l : List Need) (f : Nat) (v : Value) (w : World) (h : bf w f v (.sl 3 l.length (l.flatMap Need.row))) :
    Calls Tryz.prog 206 #[v,.func (.func 159) #[] #[]] w fun e w'=>∃ i : Int,e = .returned (.int .i64 i) ∧ (¬ lC l l.length ∧ 0 ≤ i ∨ lC l l.length ∧ i = -1) ∧ Below w.heap.size w w':=by
  obtain ⟨A,c,rfl,hc1,hc2,f',rfl,hk⟩:=bD Need.au h;unfold maxLen at hc2;have Hk:=Lib.hid hk;clear h hk;go_enter Tryz.func206,Tryz.ntmps206;go_wp2_with fail
  go_loopw [8] (fun i wr=>∃ j : Nat,j ≤ l.length ∧ i = .int .i64 j ∧ Hid (lC l j) ∧ Below w.heap.size w wr) (fun i _=>l.length - (intOf i).toNat)
  case atStart=>exact ⟨0,Nat.zero_le _,rfl,fun i hi hj=>by omega,Below.refl _ _⟩
  case round=>
    obtain ⟨j,hj,rfl,hall,hbel⟩:=hrel;have bg:=Lib.hid hbel;by_cases hlt : j < l.length
    · obtain ⟨g,o,A2,c2,rfl,q0,q1,q2,hls⟩:=rE Hk.out hbel hlt;have HT:=Lib.hid (Oq l[j] f' _ wr (hls ⟨wr,Below.refl _ _⟩));have q0:=q0 ⟨wr,Below.refl _ _⟩;have q1:=q1 ⟨wr,Below.refl _ _⟩;have q2:=q2 ⟨wr,Below.refl _ _⟩;simp only at q0 q1 q2;by_cases PL : 40 < l[j].values.length
      · rw [decide_eq_true (show (40 : Int) < (l[j].values.length : Int) by omega)] at HT;have Hf:=Lib.hid (QW hlt PL);clear PL hall hls hbel;generalize l[j] = x at *;go_wp2_with fail;refine HT.out.mono ?_;rintro e x1 ⟨rfl,hb⟩;have G:=Lib.hid (ah bg.out hb bg.out.size);clear hb;go_wp2_with fail;go_ret;exact ⟨_,rfl,.inl ⟨Hf.out,by omega⟩,G.out⟩
      · rw [decide_eq_false (show ¬ (40 : Int) < (l[j].values.length : Int) by omega)] at HT
        have Hn : Hid (lC l (j + 1)):=fun i hi hij=>by
          by_cases e : i = j
          · subst e; omega
          · exact hall.out i hi (by omega)
        clear PL hall hls hbel;generalize l[j] = x at *;go_wp2_with fail;refine HT.out.mono ?_;rintro e x1 ⟨rfl,hb⟩;have G:=Lib.hid (ah bg.out hb bg.out.size);clear hb;go_wp2_with fail
        go_roundw
        case rel=>exact ⟨j + 1,by omega,by go_num,Hn.out,G.out⟩
        case measure=>simp [intOf]; omega
    · obtain rfl : j = l.length:=(by omega);clear hbel;go_wp2_with fail;go_ret;exact ⟨_,rfl,.inr ⟨hall.out,rfl⟩,bg.out⟩
set_option maxRecDepth 100000 in
theorem Ou (l : List Need) (f : Nat) (v : Value) (w : World) (h : bf w f v (.sl 3 l.length (l.flatMap Need.row))) :
    Calls Tryz.prog 160 #[v,.func (.func 159) #[] #[]] w fun e w'=>e = .returned (.bool (!yes (lC l l.length))) ∧ Below w.heap.size w w':=by
  have H:=Lib.hid (Ot l f v w h);obtain ⟨R,hR⟩ : ∃ R,yes (lC l l.length) = R:=⟨_,rfl⟩;rw [hR];have Hno : Hid (¬ lC l l.length → R = false):=fun h=>by rw [← hR]; exact aP h
  have aG : Hid (lC l l.length → R = true):=fun h=>by rw [← hR]; exact aQ h
  clear h hR;go_enter Tryz.func160,Tryz.ntmps160;go_wp2_with fail;refine H.out.mono ?_;rintro e w1 ⟨i,rfl,hi,hb⟩;have G:=Lib.hid hb;clear hb;rcases hi with ⟨h1,h2⟩ | ⟨h1,h2⟩
  · have Hf:=Lib.hid (Hno.out h1);clear h1;go_wp2_with fail;go_ret;exact ⟨by rw [Hf.out]; rfl,G.out⟩
  · have Hf:=Lib.hid (aG.out h1);subst h2;clear h1;go_wp2_with fail;go_ret;exact ⟨by rw [Hf.out]; rfl,G.out⟩
set_option maxRecDepth 100000 in
theorem Bj (l : List Need) (f : Nat) (v : Value) (w : World) (h : bf w f v (.sl 3 l.length (l.flatMap Need.row))) :
    Calls Tryz.prog 95 #[v] w fun e w'=>e = .returned (.bool (yes (l.length ≤ 40 ∧ lC l l.length))) ∧ Below w.heap.size w w':=by
  have H:=Lib.hid (Ou l f v w h);obtain ⟨A,c,rfl,hc1,hc2,_⟩:=bD Need.au h;unfold maxLen at hc2;obtain ⟨R,hR⟩ : ∃ R,yes (l.length ≤ 40 ∧ lC l l.length) = R:=⟨_,rfl⟩;rw [hR]
  have hcase : (¬ l.length ≤ 40 ∧ R = false) ∨ (l.length ≤ 40 ∧ R = yes (lC l l.length)):=by
    rw [← hR];by_cases h4 : l.length ≤ 40
    · refine .inr ⟨h4,?_⟩;by_cases hg : lC l l.length
      · rw [aQ hg]; exact aQ ⟨h4,hg⟩
      · rw [aP hg]; exact aP fun h=>hg h.2
    · exact .inl ⟨h4,aP fun h=>h4 h.1⟩
  clear h hR;generalize yes (lC l l.length) = b at H hcase;rcases hcase with ⟨h4,hf⟩ | ⟨h4,hf⟩
  · have Hf:=Lib.hid hf;have g0 : ¬ (l.length : Int) ≤ 40:=(by omega);clear hf H;go_enter Tryz.func95,Tryz.ntmps95;go_wp2_with fail;go_ret;exact ⟨by rw [Hf.out]; rfl,Below.refl _ _⟩
  · have Hf:=Lib.hid hf;have g0 : (l.length : Int) ≤ 40:=(by omega);clear hf;go_enter Tryz.func95,Tryz.ntmps95;go_wp2_with fail;refine H.out.mono ?_;rintro e x1 ⟨rfl,hb⟩;have B1:=Lib.hid hb;clear hb;cases b <;>
    · go_wp2_with fail;go_ret;exact ⟨by rw [Hf.out]; rfl,B1.out⟩
end need
section
open Go Go.RowKit Go.Sort
section
variable {α : Type} {c : α → α → Int} {lt : α → α → Bool}
theorem iK.YM (h : iK c lt) (o : dedup.Ord lt) (a b : α) : ltOf c a b = lt a b:=by
  unfold ltOf;exact h.less o a b
theorem iK.swo (h : iK c lt) (o : dedup.Ord lt) : Sort.SWO (ltOf c) where
  irrefl x:=by rw [h.YM o]; exact o.Qc _
  trans x y z h1 h2:=by rw [h.YM o] at *; exact o.tr _ _ _ h1 h2
  ntrans x y z h1 h2:=by rw [h.YM o] at *; exact VO o _ _ _ h1 h2
end
end
namespace taint
open Go.ChangeShapes Go.WideShapes Go.ChangeAt Go.RowKit ty lab need
theorem K5 (x : av) : yes (iX x) = (yes (gP x.key ∧ gG x.value) && yes (1 ≤ x.effect ∧ x.effect ≤ 2)):=by
  rw [← JM]
  congr 1
  exact propext ⟨fun h=>⟨⟨h.key,h.value⟩,h.lo,h.hi⟩,fun h=>⟨h.1.1,h.1.2,h.2.1,h.2.2⟩⟩
set_option maxRecDepth 100000 in
set_option maxHeartbeats 4000000 in
theorem IC (x : av) (w : World) (hw : x.Wf) :
    Calls Tryz.prog 184 #[.agg #[.string x.key,.string x.value,.int .i64 x.effect]] w fun e w'=>e = .returned (.bool (yes (iX x))) ∧ Below w.heap.size w w':=by
  rw [K5];have HL:=Lib.hid (fun w'=>Gg x.key x.value x.effect w' hw.1 hw.2.1);have HE:=Lib.hid (fun w'=>Gh x.key x.value x.effect w');have HF:=Lib.hid (fun w'=>JR x w');have Hb0:=Lib.hid (fun o : Obj=>(Below.refl w.heap.size w).alloc (Nat.le_refl _) o);clear hw;obtain ⟨k,a,n⟩:=x;simp only at *;generalize yes (1 ≤ n ∧ n ≤ 2) = r2 at HE ⊢;generalize yes (gP k ∧ gG a) = r1 at HL ⊢;cases r1 with
  | false=>
    clear HE;go_enter Tryz.func184,Tryz.ntmps184;go_wp2_with fail;refine (HF.out _).mono ?_;rintro e w1 ⟨rfl,hg⟩;have Hb1:=Lib.hid (ah (Hb0.out _) hg.below (Hb0.out _).size);clear hg;go_wp2_with fail;refine (HL.out _).mono ?_;rintro e w2 ⟨rfl,hb⟩;have Hb2:=Lib.hid (ah (Hb1.out.alloc Hb1.out.size _) hb (Hb1.out.alloc Hb1.out.size _).size);clear hb;go_wp2_with fail;go_ret;exact ⟨rfl,Hb2.out⟩
  | true=>
    go_enter Tryz.func184,Tryz.ntmps184;go_wp2_with fail;refine (HF.out _).mono ?_;rintro e w1 ⟨rfl,hg⟩;have Hb1:=Lib.hid (ah (Hb0.out _) hg.below (Hb0.out _).size);clear hg;go_wp2_with fail;refine (HL.out _).mono ?_;rintro e w2 ⟨rfl,hb⟩;have hr:=(aC.new 193 w1 [.string k,.string a,.int .i64 n]).below hb;have c0:=hr.cell 0 _ rfl;have c1:=hr.cell 1 _ rfl;have c2:=hr.cell 2 _ rfl;have Hb2:=Lib.hid (ah (Hb1.out.alloc Hb1.out.size _) hb (Hb1.out.alloc Hb1.out.size _).size);clear hb hr;go_wp2_with fail;refine (HE.out _).mono ?_;rintro e w3 ⟨rfl,hb⟩;have Hb3:=Lib.hid (ah Hb2.out hb Hb2.out.size);clear hb;go_wp2_with fail;go_ret;exact ⟨by cases r2 <;> rfl,Hb3.out⟩
end taint
namespace taint
open Go.ChangeShapes Go.WideShapes Go.ChangeAt Go.RowKit ty lab need
theorem K6 (a b : ByteArray) (n : Int) (w : World) : Sem.run Tryz.prog (Instr.field 193 (.agg #[.string a,.string b,.int .i64 n]) 0) w = .ok (.agg #[.string a,.string b,.int .i64 n]) w:=by kernel_rfl
set_option maxRecDepth 100000 in
set_option maxHeartbeats 8000000 in
theorem xD (x y : av) (w : World) :
    Calls Tryz.prog 108 #[.agg #[.string x.key,.string x.value,.int .i64 x.effect],.agg #[.string y.key,.string y.value,.int .i64 y.effect]] w fun e w'=>e = .returned (.int .i64 (zu x y)) ∧ Gr w w':=by
  unfold zu;obtain ⟨k1,a1,n1⟩:=x;obtain ⟨k2,a2,n2⟩:=y;simp only;obtain ⟨X,hX⟩ : ∃ X,X = (w.alloc (.cells #[.string k1,.string a1,.int .i64 n1] 72)).alloc (.cells #[.string k2,.string a2,.int .i64 n2] 72):=⟨_,rfl⟩;have HB : oQ 72 w [.string k1,.string a1,.int .i64 n1] [.string k2,.string a2,.int .i64 n2] X:=(by rw [hX]; exact oQ.new _ _ _ _);have hgr : Gr w X:=(by rw [hX]; exact ((Gr.refl w).alloc _).alloc _);have hs : w.heap.size + 1 < X.heap.size:=(by rw [hX]; simp);have p0 : ∀ p : qH X,p.v.cell? ⟨w.heap.size,0,none⟩ = some (.string k1):=fun p=>p.cell (by simp; omega) (HB.cell1 (j:=0) rfl);have p1 : ∀ p : qH X,p.v.cell? ⟨w.heap.size,1,none⟩ = some (.string a1):=fun p=>p.cell (by simp; omega) (HB.cell1 (j:=1) rfl);have p2 : ∀ p : qH X,p.v.cell? ⟨w.heap.size,2,none⟩ = some (.int .i64 n1):=fun p=>p.cell (by simp; omega) (HB.cell1 (j:=2) rfl);have q0 : ∀ p : qH X,p.v.cell? ⟨w.heap.size + 1,0,none⟩ = some (.string k2):=fun p=>p.cell (by simp; omega) (HB.fO (j:=0) rfl);have q1 : ∀ p : qH X,p.v.cell? ⟨w.heap.size + 1,1,none⟩ = some (.string a2):=fun p=>p.cell (by simp; omega) (HB.fO (j:=1) rfl);have q2 : ∀ p : qH X,p.v.cell? ⟨w.heap.size + 1,2,none⟩ = some (.int .i64 n2):=fun p=>p.cell (by simp; omega) (HB.fO (j:=2) rfl);have HF:=Lib.hid (fun (a b : ByteArray) (n : Int) w'=>JR ⟨a,b,n⟩ w');simp only at HF;have HC:=Lib.hid (fun w'=>xY k1 a1 n1 k2 a2 n2 w');have F0:=K6;have nI:=Lib.hid hgr;have HX:=Lib.hid hX;clear HB hgr hs hX;generalize Jp (fC k1 k2) (fC a1 a2) (arith.qE n1 n2) = r at HC ⊢;go_enter Tryz.func108,Tryz.ntmps108;go_wp2_with fail;rw [← HX.out];refine uR (by kernel_rfl) (by kernel_rfl) ?_
  repeat (refine @wpQuiet_step _ _ _ _ _ _ _ ?_; intro K hK; go_simp; first | (refine hK _ ?_; clear hK K) | (apply Exists.intro; refine ⟨fun _=>?_,hK _ ?_⟩; (first | (go_at_call 182; exact Calls.TV (HF.out _ _ _ _)) | (go_at_call 177; exact Calls.TV (HC.out _))); clear hK K))
  refine wpQuiet_nil ?_;intro _ hw';obtain ⟨p,rfl⟩:=hw';go_wp2_with fail;go_ret;exact ⟨rfl,nI.out.trans p.h⟩
end taint
namespace taint
open Go.ChangeShapes Go.WideShapes Go.ChangeAt Go.RowKit ty lab dedup need
set_option maxRecDepth 100000 in
set_option maxHeartbeats 16000000 in
theorem Bl (l : List av) (f : Nat) (v : Value) (w : World) (h : bf w f v (.sl 3 l.length (l.flatMap av.row))) :
    Calls Tryz.prog 183 #[v,.func (.func 184) #[] #[],.func (.func 108) #[] #[]] w fun e w'=>e = .returned (.bool (yes (fE iX bA l l.length))) ∧ Below w.heap.size w w':=by
  obtain ⟨A,c,rfl,hc1,hc2,f',rfl,hk⟩:=bD av.au h;unfold maxLen at hc2;obtain ⟨R,hR⟩ : ∃ R,yes (fE iX bA l l.length) = R:=⟨_,rfl⟩;rw [hR];have Hno : Hid (¬ fE iX bA l l.length → R = false):=fun h=>by rw [← hR]; exact aP h
  have aG : Hid (fE iX bA l l.length → R = true):=fun h=>by rw [← hR]; exact aQ h
  have Hk:=Lib.hid hk;clear h hk hR;go_enter Tryz.func183,Tryz.ntmps183;go_wp2_with fail
  go_loopw [11] (fun i wr=>∃ j : Nat,j ≤ l.length ∧ i = .int .i64 j ∧ Hid (fE iX bA l j) ∧ Below w.heap.size w wr) (fun i _=>l.length - (intOf i).toNat)
  case atStart=>exact ⟨0,Nat.zero_le _,rfl,fun i hi hj=>by omega,Below.refl _ _⟩
  case round=>
    obtain ⟨j,hj,rfl,hgood,hbel⟩:=hrel;have bg:=Lib.hid hbel;by_cases hlt : j < l.length
    · obtain ⟨g,o,rfl,hg,us,kN,hc,hls⟩:=(Hk.out.below hbel).get hlt;obtain ⟨rfl,hwf⟩:=av.opened hls;have q0 : wr.cell? ⟨g,o + j * 3,none⟩ = some (.string l[j].key):=hc 0 _ rfl;have q1 : wr.cell? ⟨g,o + j * 3 + 1,none⟩ = some (.string l[j].value):=hc 1 _ rfl;have q2 : wr.cell? ⟨g,o + j * 3 + 2,none⟩ = some (.int .i64 l[j].effect):=hc 2 _ rfl;obtain ⟨X,hX⟩ : ∃ X,X = wr.alloc (.cells #[.string l[j].key,.string l[j].value,.int .i64 l[j].effect] 72):=⟨_,rfl⟩;have HB:=Lib.hid (AU.new 72 wr [.string l[j].key,.string l[j].value,.int .i64 l[j].effect]);have hbX : Below wr.heap.size wr X:=(by rw [hX]; exact HB.out.1);have HN:=Lib.hid (fun p : ak X=>IC l[j] p.v hwf);have HW2 : Hid (∀ p : ak X,Below w.heap.size w p.v):=fun p=>ah hbel (hbX.trans (p.h.mono hbX.size)) hbel.size;have B0 : ∀ p : ak X,p.v.cell? ⟨wr.heap.size,0,none⟩ = some (.string l[j].key):=fun p=>p.cell (by rw [hX]; simp) (by rw [hX]; exact HB.out.cell (j:=0) rfl);have B1 : ∀ p : ak X,p.v.cell? ⟨wr.heap.size,1,none⟩ = some (.string l[j].value):=fun p=>p.cell (by rw [hX]; simp) (by rw [hX]; exact HB.out.cell (j:=1) rfl);have B2 : ∀ p : ak X,p.v.cell? ⟨wr.heap.size,2,none⟩ = some (.int .i64 l[j].effect):=fun p=>p.cell (by rw [hX]; simp) (by rw [hX]; exact HB.out.cell (j:=2) rfl);have HX:=Lib.hid hX;have hj0 : (0 : Int) ≤ (j : Int):=(by omega);have hjn : (j : Int) < (l.length : Int):=(by omega);by_cases hP : iX l[j]
      case neg=>
        have Hf:=Lib.hid (Hno.out fun h2=>hP (h2 j hlt hlt).1);rw [aP hP] at HN;clear hP Hno aG hgood hls kN hc hg hwf Hk hbel hbX hX HB;generalize l[j] = x at *;go_wp2_with fail;rw [← HX.out];refine wp_region_quiet_below (by kernel_rfl) (by kernel_rfl) ?_
        repeat (refine @wpQuiet_step _ _ _ _ _ _ _ ?_; intro K hK; go_simp; first | (refine hK _ ?_; clear hK K) | (apply Exists.intro; refine ⟨fun _=>?_,hK _ ?_⟩; (first | (go_at_call 184; exact Calls.aF (HN.out _))); clear hK K))
        refine wpQuiet_nil ?_;intro _ hw';obtain ⟨p,rfl⟩:=hw';go_wp2_with fail;go_ret;exact ⟨by rw [Hf.out]; rfl,HW2.out p⟩
      rw [aQ hP] at HN;by_cases hz : j = 0
      · have Hg:=Lib.hid (fM hgood.out hlt hP (fun m hm=>by omega));have hn0 : ¬ (0 : Int) < (j : Int):=(by omega);have hn1 : ¬ 0 < j:=(by omega);clear hP Hno aG hgood hls kN hc hg hwf Hk hz hbel hbX hX HB;generalize l[j] = x at *;go_wp2_with fail;rw [← HX.out];refine wp_region_quiet_below (by kernel_rfl) (by kernel_rfl) ?_
        repeat (refine @wpQuiet_step _ _ _ _ _ _ _ ?_; intro K hK; go_simp; first | (refine hK _ ?_; clear hK K) | (apply Exists.intro; refine ⟨fun _=>?_,hK _ ?_⟩; (first | (go_at_call 184; exact Calls.aF (HN.out _))); clear hK K))
        refine wpQuiet_nil ?_;intro _ hw';obtain ⟨p,rfl⟩:=hw';go_wp2_with fail
        go_roundw
        case rel=>exact ⟨j + 1,by omega,by go_num,Hg.out,HW2.out p⟩
        case measure=>simp [intOf]; omega
      obtain ⟨m,hm⟩ : ∃ m,m + 1 = j:=⟨j - 1,by omega⟩;have hml : m < l.length:=(by omega);obtain ⟨g',o',hA3,hg2,MH,jD,hc2',eZ⟩:=(Hk.out.below hbel).get hml;injection hA3 with hA3;injection hA3 with e1 e2;subst e1 e2;obtain ⟨rfl,_⟩:=av.opened eZ;have HC:=Lib.hid (fun p : ak X=>nk (xD l[m] l[j] p.v));have R0 : ∀ p : ak X,p.v.cell? ⟨g,o + m * 3,none⟩ = some (.string l[m].key):=fun p=>(World.cell?_of_block ((hbX.trans (p.h.mono hbX.size)).block g hg)).trans (hc2' 0 _ rfl);have R1 : ∀ p : ak X,p.v.cell? ⟨g,o + m * 3 + 1,none⟩ = some (.string l[m].value):=fun p=>(World.cell?_of_block ((hbX.trans (p.h.mono hbX.size)).block g hg)).trans (hc2' 1 _ rfl);have R2 : ∀ p : ak X,p.v.cell? ⟨g,o + m * 3 + 2,none⟩ = some (.int .i64 l[m].effect):=fun p=>(World.cell?_of_block ((hbX.trans (p.h.mono hbX.size)).block g hg)).trans (hc2' 2 _ rfl);have yZ : (j : Int) - 1 = (m : Int):=(by omega);have BN : IntKind.i64.wrap (m : Int) = (m : Int):=IntWalk.i64_in _ (by omega);have hm0 : (0 : Int) ≤ (m : Int):=(by omega);have hm1 : (m : Int) < (l.length : Int):=(by omega);have hjp : (0 : Int) < (j : Int):=(by omega);have Dw : 0 < j:=(by omega);have hb:=iK.less Qj ER l[m] l[j];by_cases hr : zu l[m] l[j] < 0
      · rw [decide_eq_true hr] at hb
        have Hg:=Lib.hid (fM hgood.out hlt hP (fun m' hm'=>by
                                                                          obtain rfl : m' = m:=(by omega);exact hb.symm))
        have hr0 : ¬ (0 : Int) ≤ zu l[m] l[j]:=(by omega);clear hP Hno aG hgood hls kN hc hg hwf eZ jD hc2' hg2 Hk hz hm hb hbel hbX hX HB;generalize zu l[m] l[j] = r at HC hr0 hr;generalize l[j] = x at *;generalize l[m] = y at *;go_wp2_with fail;rw [← HX.out];refine wp_region_quiet_below (by kernel_rfl) (by kernel_rfl) ?_
        repeat (refine @wpQuiet_step _ _ _ _ _ _ _ ?_; intro K hK; go_simp; first | (refine hK _ ?_; clear hK K) | (apply Exists.intro; refine ⟨fun _=>?_,hK _ ?_⟩; (first | (go_at_call 184; exact Calls.aF (HN.out _)) | (go_at_call 108; exact Calls.aF (HC.out _))); clear hK K))
        refine wpQuiet_nil ?_;intro _ hw';obtain ⟨p,rfl⟩:=hw';go_wp2_with fail
        go_roundw
        case rel=>exact ⟨j + 1,by omega,by go_num,Hg.out,HW2.out p⟩
        case measure=>simp [intOf]; omega
      · rw [decide_eq_false hr] at hb
        have Hf:=Lib.hid (Hno.out fun h2=>by
          have:=(h2 j hlt hlt).2 m hm;rw [← hb] at this; cases this)
        have hr0 : (0 : Int) ≤ zu l[m] l[j]:=(by omega);clear hP Hno aG hgood hls kN hc hg hwf eZ jD hc2' hg2 Hk hz hm hb hbel hbX hX HB;generalize zu l[m] l[j] = r at HC hr0 hr;generalize l[j] = x at *;generalize l[m] = y at *;go_wp2_with fail;rw [← HX.out];refine wp_region_quiet_below (by kernel_rfl) (by kernel_rfl) ?_
        repeat (refine @wpQuiet_step _ _ _ _ _ _ _ ?_; intro K hK; go_simp; first | (refine hK _ ?_; clear hK K) | (apply Exists.intro; refine ⟨fun _=>?_,hK _ ?_⟩; (first | (go_at_call 184; exact Calls.aF (HN.out _)) | (go_at_call 108; exact Calls.aF (HC.out _))); clear hK K))
        refine wpQuiet_nil ?_;intro _ hw';obtain ⟨p,rfl⟩:=hw';go_wp2_with fail;go_ret;exact ⟨by rw [Hf.out]; rfl,HW2.out p⟩
    · obtain rfl : j = l.length:=(by omega);have Hf:=Lib.hid (aG.out hgood.out);clear hgood hbel;go_wp2_with fail;go_ret;exact ⟨by rw [Hf.out]; rfl,bg.out⟩
end taint
namespace taint
open Go.ChangeShapes Go.WideShapes Go.ChangeAt Go.RowKit ty lab dedup need
set_option maxRecDepth 100000 in
set_option maxHeartbeats 4000000 in
theorem ug (l : List av) (f : Nat) (v : Value) (w : World) (h : bf w f v (.sl 3 l.length (l.flatMap av.row))) :
    Calls Tryz.prog 109 #[v] w fun e w'=>e = .returned (.bool (yes (bL l))) ∧ Below w.heap.size w w':=by
  have HA:=Lib.hid (Bl l f v w h);obtain ⟨A,c,rfl,hc1,hc2,_⟩:=bD av.au h;unfold maxLen at hc2;by_cases h4 : 4 < l.length
  · have Hf:=Lib.hid (aP (p:=bL l) (fun h=>by have:=h.1; omega));clear h HA;go_enter Tryz.func109,Tryz.ntmps109;go_wp2_with fail;go_ret;exact ⟨by rw [Hf.out]; rfl,Below.refl _ _⟩
  have He : Hid (yes (bL l) = yes (fE iX bA l l.length)):=by
    unfold Hid
    congr 1
    exact propext ⟨fun h=>h.2,fun h=>⟨by omega,h⟩⟩
  rw [He.out];clear He h;generalize yes (fE iX bA l l.length) = R at HA ⊢;go_enter Tryz.func109,Tryz.ntmps109;go_wp2_with fail;refine HA.out.mono ?_;rintro e w1 ⟨rfl,hb⟩;go_wp2_with fail;go_ret;exact ⟨rfl,hb⟩
end taint
end Go.Proofs.YtcfbkfmkjggcdaaGreatDoor
