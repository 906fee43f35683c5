/- Merged: CopLabelC CopM CopyNI CopNeedC CopToleranceC CopyPI. -/
import Derived.Test.YtcfbkfmkjggcdaaGreatDoorGA17
import Derived.Test.YtcfbkfmkjggcdaaGreatDoorGA27
import Derived.Test.YtcfbkfmkjggcdaaGreatDoorGA10
import Derived.Test.YtcfbkfmkjggcdaaGreatDoorGA4
import Derived.Laws.CopyOwn
import Derived.Test.YtcfbkfmkjggcdaaGreatDoorGA18
import Derived.Test.YtcfbkfmkjggcdaaGreatDoorGA13
import Derived.Test.YtcfbkfmkjggcdaaGreatDoorGA11
import Derived.OwnWalk
import Derived.Laws.Cover1
import Derived.Test.YtcfbkfmkjggcdaaGreatDoorGA14
import Derived.Test.YtcfbkfmkjggcdaaGreatDoorGA15
import Derived.Test.YtcfbkfmkjggcdaaGreatDoorGA5
import Derived.Test.YtcfbkfmkjggcdaaGreatDoorGA9
import Derived.Deep.WholeRow
set_option linter.unusedVariables false
namespace Go.Proofs.YtcfbkfmkjggcdaaGreatDoor
namespace pod
open Go.ChangeShapes Go.WideShapes Go.ChangeAt Go.RowKit ty lab
theorem uj (l : List Label) (f : Nat) (v : Value) (w : World) (h : bf w f v (.sl 2 l.length (l.flatMap Label.row))) (hn : l.length ≤ 1048576) :
    Calls Tryz.prog 91 #[v] w fun e w'=>vU w w' e 2 Label.row l:=by
  have hwf : ∀ x ∈ l,x.Wf:=by
    obtain ⟨A,c,_,_,_,f',rfl,hk⟩:=bD Label.au h;exact (gI hk).2
  refine (uf l f v w h hn).mono ?_;rintro e w1 ⟨g,c,rfl,hown,hb⟩;obtain ⟨F,ho,hnd,_⟩:=gQ hown hwf;obtain ⟨G,a,b,_⟩:=ho.toC hnd;exact ⟨_,1,G,rfl,a,b,hb⟩
end pod
namespace need
open Go Go.RowKit ty lab
def jO (l : List Need) (j : Nat) : Nat:=bH (fun x=>x.values.length) (l.take j)
theorem xE (l : List Need) : jO l 0 = 0:=by simp [jO,bH]
theorem xG {l : List Need} {j : Nat} (h : j < l.length) : jO l (j + 1) = jO l j + l[j].values.length:=BF _ h
theorem QX (l : List Need) (j : Nat) : jO l j ≤ bH Need.wt l:=by
  have h1:=yR Need.wt l j
  have h2 : ∀ k : List Need,bH (fun x=>x.values.length) k ≤ bH Need.wt k:=fun k=>by
    induction k with
    | nil=>exact Nat.le_refl _
    | cons a r ih=>
      have:=sU a;simp only [bH,List.map_cons,List.sum_cons] at ih ⊢;omega
  have h3:=h2 (l.take j);unfold jO;omega
theorem K7 (l : List Need) (j : Nat) (hj : j ≤ l.length) : jO l j ≤ jO l l.length:=by
  unfold jO;rw [List.take_length];have:=yR (fun x : Need=>x.values.length) l j;omega
theorem rR {α : Type} {xs ys : List α} {n : Nat} (h : xs.drop n = ys.drop n) (i : Nat) : xs[n + i]? = ys[n + i]?:=by
  rw [← List.getElem?_drop,← List.getElem?_drop,h]
theorem K8 {xs : List Value} {n : Nat} {a b c v : Value} (h0 : xs[n]? = some a) (h1 : xs[n + 1]? = some b) (h2 : xs[n + 2]? = some c) : (xs.set (n + 2) v).take (n + 3) = xs.take n ++ [a,b,v]:=by
  have l2 : n + 2 < xs.length:=(List.getElem?_eq_some_iff.1 h2).1;rw [List.take_succ_eq_append_getElem (by simp; omega),List.getElem_set_self,List.take_set_of_le (Nat.le_refl _),List.take_succ_eq_append_getElem (by omega),List.take_succ_eq_append_getElem (by omega)];rw [List.getElem?_eq_getElem (by omega)] at h0 h1;injection h0 with h0;injection h1 with h1;rw [h0,h1];simp
theorem IE {α : Type} {L cs : List α} {o i : Nat} (hi : i < o) (ho : o ≤ L.length) : (splice L o cs)[i]? = L[i]?:=by
  unfold splice;rw [List.getElem?_append_left (by simp; omega),List.getElem?_take_of_lt hi]
theorem K9 {α : Type} {L cs : List α} {o i : Nat} (hi : i < cs.length) (ho : o ≤ L.length) : (splice L o cs)[o + i]? = cs[i]?:=by
  unfold splice;have e : (L.take o).length = o:=(by rw [List.length_take]; omega);rw [List.getElem?_append_right (by omega),e,Nat.add_sub_cancel_left,List.getElem?_append_left hi]
structure Cp (w : World) (IT TS : TypeId) (x c1 r N : Nat) (l : List Need) (raw : List Value) (j : Nat) (xs : List Value) (F : List Cl) (cur : List Value) (wr : World) : Prop where
  row : wr.ownsRow w.heap.size IT 3 (.slice (some ⟨x,0,none⟩) l.length c1) l.length xs
  drop : xs.drop (j * 3) = raw.drop (j * 3)
  own : bF wr w.heap.size 2 (xs.take (j * 3)) ((l.take j).flatMap Need.row) F
  gY : F.Nodup
  inr : ∀ p ∈ F,p.1 = r ∧ p.2 < jO l j
  blk : wr.heap[r]? = some (.cells cur.toArray TS (0,0))
  len : cur.length = N
  ne : r ≠ x
  base : w.heap.size ≤ r
  gK : Below w.heap.size w wr
theorem Cp.step {w wr w4 w5 : World} {IT TS : TypeId} {x c1 r N o n : Nat} {l : List Need} {raw xs cur : List Value} {F : List Cl} {j : Nat} {A2 : Option Addr} {c2 : Nat}
    (h : Cp w IT TS x c1 r N l raw j xs F cur wr) (hlt : j < l.length) (hn : n = l[j].values.length) (hN : jO l j + n ≤ N) (e0 : xs[j * 3]? = some (.string l[j].key)) (e1 : xs[j * 3 + 1]? = some (.int .i64 l[j].op)) (e2 : xs[j * 3 + 2]? = some (.slice A2 n c2)) (hwf : l[j].Wf) (hz : ∀ s ∈ l[j].values,s.size ≤ maxLen) (hnm : n ≤ maxLen)
    (ho : 0 < n → o = jO l j) (h4 : w4.heap[r]? = some (.cells (splice cur (jO l j) (aT l[j].values)).toArray TS (0,0))) (hg4 : wr.grownBy w4 (some r)) (h5 : w5 = w4.setCell ⟨x,j * 3 + 2,none⟩ (.slice (some ⟨r,o,none⟩) n n)) :
    ∃ G,Cp w IT TS x c1 r N l raw (j + 1) (xs.set (j * 3 + 2) (.slice (some ⟨r,o,none⟩) n n)) (F ++ G) (splice cur (jO l j) (aT l[j].values)) w5:=by
  have hlen : jO l j ≤ cur.length:=(by rw [h.len]; omega);have hsl : (splice cur (jO l j) (aT l[j].values)).length = N:=(by rw [length_splice _ _ _ (by rw [bG,h.len,← hn]; exact hN),h.len]);have hr:=aX h.blk;have hxl:=(h.row.lt x rfl);have hx4 : w4.heap[x]? = wr.heap[x]?:=hg4.block x hxl.2 (fun e=>h.ne (by injection e with e; exact e.symm));have hrow4 : w4.ownsRow w.heap.size IT 3 (.slice (some ⟨x,0,none⟩) l.length c1) l.length xs:=h.row.kept hg4 (.inr (by simp [Value.ownBlock]; exact fun e=>h.ne e.symm));obtain ⟨s1,s2⟩:=hrow4.stored (j * 3 + 2) (.slice (some ⟨r,o,none⟩) n n);rw [← h5] at s1 s2;have hr4:=aX h4;have jy : w5.heap[r]? = some (.cells (splice cur (jO l j) (aT l[j].values)).toArray TS (0,0)):=(s2.block r hr4 (fun e=>h.ne (by injection e))).trans h4;have abI : wr.heap.size ≤ w5.heap.size:=Nat.le_trans hg4.size s2.size
  have hown5 : bF w5 w.heap.size 2 (xs.take (j * 3)) ((l.take j).flatMap Need.row) F:=h.own.kept abI (fun p hp=>by
    obtain ⟨p1,p2⟩:=h.inr p hp;obtain ⟨a,m⟩:=p;obtain rfl : a = r:=p1;have hm : m < jO l j:=p2;refine ⟨?_,?_⟩
    · show w5.cell? ⟨a,m,none⟩ = wr.cell? ⟨a,m,none⟩;rw [cell_of_row w5 a m _ _ _ jy,cell_of_row wr a m _ _ _ h.blk];simpa using IE (cs:=aT l[j].values) hm hlen
    · show w5.frozen? ⟨a,m,none⟩ = wr.frozen? ⟨a,m,none⟩;rw [frozen_of_row w5 a m _ _ jy,frozen_of_row wr a m _ _ h.blk])
  have tZ : ∃ G,dG w5 w.heap.size 2 (.slice (some ⟨r,o,none⟩) n n) (.sl 1 n (l[j].values.flatMap Str.row)) G ∧ G.Nodup ∧ ∀ p ∈ G,p.1 = r ∧ jO l j ≤ p.2 ∧ p.2 < jO l j + n:=by
    by_cases h0 : 0 < n
    · rw [Str.flat];have hov:=ho h0
      have hc:=CJ (w:=w5) (B:=w.heap.size) (f:=0) (g:=r) (o:=o) (c:=n) (ks:=l[j].values) h.base (aX jy) (by omega) hnm (fun i hi=>by
        rw [cell_of_row w5 r _ _ _ _ jy,hov];have:=K9 (L:=cur) (o:=jO l j) (cs:=aT l[j].values) (i:=i) (by rw [bG]; exact hi) hlen;rw [bV _ i hi] at this;simpa using this) (fun i _=>frozen_of_row w5 r _ _ _ jy) hz
      rw [← hn] at hc;refine ⟨_,hc,qd _ _ _,fun p hp=>?_⟩;obtain ⟨a1,a2,a3⟩:=jN.1 hp;exact ⟨a1,by omega,by omega⟩
    · have hn0 : n = 0:=(by omega);have hv : l[j].values = []:=List.eq_nil_of_length_eq_zero (by omega);rw [hv,hn0];exact ⟨[],CK (by simp [maxLen]),List.nodup_nil,fun p hp=>by simp at hp⟩
  obtain ⟨G,hG,hGn,hGr⟩:=tZ;refine ⟨G,s1,?_,?_,List.nodup_append.2 ⟨h.gY,hGn,fun a ha b hb e=>?_⟩,fun p hp=>?_,jy,hsl,h.ne,h.base,?_⟩
  · rw [List.drop_set_of_lt (by omega),show (j + 1) * 3 = j * 3 + 3 by omega,← List.drop_drop,← List.drop_drop,h.drop]
  · rw [show (j + 1) * 3 = j * 3 + 3 by omega,K8 e0 e1 e2,show (l.take (j + 1)).flatMap Need.row = (l.take j).flatMap Need.row ++ l[j].row by rw [List.take_succ_eq_append_getElem hlt,List.flatMap_append]; simp];refine hown5.append ?_;have:=bF.cons (rP (w:=w5) (B:=w.heap.size) (f:=1) hwf.1) (bF.cons (lX (w:=w5) (B:=w.heap.size) (f:=1) hwf.2) (bF.cons hG bF.nil));simp only [List.nil_append,List.append_nil] at this;unfold Need.row;rw [← hn];exact this
  · subst e;have h1:=(h.inr a ha).2;have h2:=(hGr a hb).2.1;omega
  · rw [xG hlt,← hn];rcases List.mem_append.1 hp with hp | hp
    · have:=h.inr p hp;exact ⟨this.1,by omega⟩
    · have:=hGr p hp;exact ⟨this.1,this.2.2⟩
  · exact (h.gK.grown hg4 h.gK.size (fun q hq=>by injection hq with hq; rw [← hq]; exact h.base)).grown s2 (Nat.le_trans h.gK.size hg4.size) (fun q hq=>by injection hq with hq; rw [← hq]; exact hxl.1)
theorem Cp.done {w wr : World} {IT TS : TypeId} {x c1 r N : Nat} {l : List Need} {raw xs cur : List Value} {F : List Cl} (h : Cp w IT TS x c1 r N l raw l.length xs F cur wr) :
    kM wr w.heap.size 2 IT 3 (.slice (some ⟨x,0,none⟩) l.length c1) l.length (l.flatMap Need.row):=by
  have ho:=h.own;have hl:=h.row.1;rw [List.take_of_length_le (by omega),List.take_length] at ho
  exact ⟨xs,F,h.row,by rw [aM Need.au],ho,h.gY,fun p hp e=>h.ne (by
    have:=(h.inr p hp).1;simp [Value.ownBlock] at e;omega)⟩
theorem vV {P : Program} {w : World} {ops : Array Oper} {rest : List Oper} {o : Oper} {a : Act} {Q : Exit → Act → World → Prop} (hgd : o.guard = none) (d s : Operand) (dT sT : TypeId)
    (ho : o.op = .call { callee:=.builtin .copy,args:=#[d,s],argTypes:=#[dT,sT] }) (elem : TypeId) (hu : P.underlying dT = some (.slice elem)) (hsz : (P.info? elem).map (·.size) = some 1)
    (dp sp : Option Addr) (dLen dCap sLen sCap : Nat) (hd : a.eval d = .slice dp dLen dCap) (hs : a.eval s = .slice sp sLen sCap)
    (g off : Nat) (cur : List Value) (t : TypeId) (hg : w.heap[g]? = some (.cells cur.toArray t (0,0))) (cs : List Value) (hn : cs.length = Nat.min sLen dLen)
    (hpos : 0 < cs.length → dp = some ⟨g,off,none⟩ ∧ ∃ ad,sp = some ad ∧ ∀ j v,cs[j]? = some v → w.cell? (ad.add j) = some v)
    (hfit : off + cs.length ≤ cur.length) (h1 : ∀ v ∈ cs,v.oneCell' = true)
    (h : ∀ w',w'.heap[g]? = some (.cells (splice cur off cs).toArray t (0,0)) → w.grownBy w' (some g) → wpList P ops Q rest (a.put o.dst (goInt cs.length)) w') :
    wpList P ops Q (o :: rest) a w:=by
  by_cases h0 : cs.length = 0
  · obtain rfl : cs = []:=List.eq_nil_of_length_eq_zero h0;refine wpList_copy_nothing hgd d s dT sT ho elem hu hsz dp sp dLen dCap sLen sCap hd hs (by simpa using hn.symm) ?_;exact h w (by simpa [splice] using hg) (World.grownBy.refl _ _)
  · obtain ⟨rfl,ad,rfl,hsrc⟩:=hpos (by omega);refine wpList_copy_own hgd d s dT sT ho elem hu hsz g off dLen dCap ad sLen sCap hd hs cur.toArray t hg cs hn hsrc (by simpa using hfit) h1 ?_;exact h _ (by simpa [splice] using setRow_heap w g _ _ t _ hg) ⟨rfl,rfl,rfl,by simp [World.setRow],fun k hk hne=>setRow_other w g k _ (fun e=>hne (by rw [e]))⟩
end need
namespace need
open Go.ChangeShapes Go.WideShapes Go.ChangeAt Go.RowKit ty lab
theorem TryzinfoStrC : (Tryz.prog.info? 9).map (fun i=>(i.zero,i.size,i.bytes)) = some (some (.string ⟨#[]⟩),1,16):=by kernel_rfl
theorem yT {w : World} {f : Nat} {v : Value} {d : C} (h : bf w f v d) : v.oneCell' = true:=by
  cases f with
  | zero=>exact h.elim
  | succ f=>
    cases d with
    | int k n=>obtain ⟨rfl,_⟩:=h; rfl
    | bool b=>obtain rfl:=h; rfl
    | str s=>obtain ⟨rfl,_⟩:=h; rfl
    | sl k n cs=>obtain ⟨A,c,rfl,_⟩:=h; rfl
theorem WY {w : World} {f c : Nat} {A : Option Addr} {l : List Need} (h : bf w f (.slice A l.length c) (.sl 3 l.length (l.flatMap Need.row))) : ∃ f' xs,jI w A l.length 3 xs ∧ aH w f' xs (l.flatMap Need.row):=by
  obtain ⟨A',c',hA,h1,h2,hl,f',rfl,hc⟩:=h.sl;injection hA with a1 _ a3;subst a1 a3;by_cases h0 : l.length = 0
  · have e : l = []:=List.eq_nil_of_length_eq_zero h0;subst e;exact ⟨f',[],⟨rfl,fun h=>absurd h (by simp)⟩,aH.nil⟩
  obtain ⟨g,o,rfl,hg,hcc⟩:=hc (by omega)
  have hone : ∀ i,i < (l.flatMap Need.row).length → ∃ u : Value,w.cell? ⟨g,o + i,none⟩ = some u ∧ ∃ d,(l.flatMap Need.row)[i]? = some d ∧ bf w f' u d:=fun i hi=>by
    obtain ⟨u,hu,hl⟩:=hcc i _ (List.getElem?_eq_getElem hi);exact ⟨u,hu,_,List.getElem?_eq_getElem hi,hl⟩
  obtain ⟨q,hq⟩:=Go.Deep.choose_lt hone;refine ⟨f',(List.range (l.flatMap Need.row).length).map q,⟨by rw [List.length_map,List.length_range,hl],fun _=>⟨g,o,rfl,hg,fun j u hu=>?_⟩⟩,by simp,fun m u d hu hd=>?_⟩
  · have hi : j < (l.flatMap Need.row).length:=(by have:=(List.getElem?_eq_some_iff.1 hu).1; simpa using this);simp only [List.getElem?_map,List.getElem?_range hi,Option.map_some,Option.some.injEq] at hu;rw [← hu];exact (hq j hi).1
  · have hi : m < (l.flatMap Need.row).length:=(List.getElem?_eq_some_iff.1 hd).1;simp only [List.getElem?_map,List.getElem?_range hi,Option.map_some,Option.some.injEq] at hu;rw [← hu];obtain ⟨_,d',e,hl⟩:=hq m hi;rw [e] at hd;injection hd with hd;exact hd ▸ hl
theorem WZ {w : World} {f : Nat} {xs : List Value} {l : List Need} (h : aH w f xs (l.flatMap Need.row)) {j : Nat} (hj : j < l.length) :
    ∃ A2 c2,xs[j * 3]? = some (.string l[j].key) ∧ xs[j * 3 + 1]? = some (.int .i64 l[j].op) ∧ xs[j * 3 + 2]? = some (.slice A2 l[j].values.length c2) ∧ l[j].Wf ∧ bf w f (.slice A2 l[j].values.length c2) (.sl 1 l[j].values.length (l[j].values.flatMap Str.row)):=by
  have hlen : xs.length = l.length * 3:=(by rw [h.1,aM Need.au]);have hd : ∀ i,i < 3 → (l.flatMap Need.row)[j * 3 + i]? = l[j].row[i]?:=fun i hi=>gq Need.au l j i _ (List.getElem?_eq_getElem hj) hi;have hu : ∀ i (hi : i < 3),xs[j * 3 + i]? = some (xs[j * 3 + i]'(by omega)):=fun i hi=>List.getElem?_eq_getElem (by omega);have k0:=h.2 (j * 3 + 0) _ _ (hu 0 (by omega)) (by rw [hd 0 (by omega)]; rfl);have k1:=h.2 (j * 3 + 1) _ _ (hu 1 (by omega)) (by rw [hd 1 (by omega)]; rfl);have k2:=h.2 (j * 3 + 2) _ _ (hu 2 (by omega)) (by rw [hd 2 (by omega)]; rfl);obtain ⟨e0,w0⟩:=k0.str;obtain ⟨e1,w1⟩:=k1.int;have k2':=k2;obtain ⟨A2,c2,e2,n2,m2,_⟩:=k2'.sl;rw [e2] at k2;refine ⟨A2,c2,?_,?_,?_,⟨w0,w1⟩,k2⟩
  · have:=hu 0 (by omega); rw [e0] at this; exact this
  · have:=hu 1 (by omega); rw [e1] at this; exact this
  · have:=hu 2 (by omega); rw [e2] at this; exact this
set_option maxRecDepth 1000000 in
set_option maxHeartbeats 16000000 in
theorem Ae (l : List Need) (f : Nat) (v : Value) (w : World) (h : bf w f v (.sl 3 l.length (l.flatMap Need.row))) (hw : l.length + bH Need.wt l ≤ 1048576) :
    Calls Tryz.prog 96 #[v] w fun e w'=>∃ g c,e = .returned (.slice (some ⟨g,0,none⟩) l.length c) ∧ kM w' w.heap.size 2 69 3 (.slice (some ⟨g,0,none⟩) l.length c) l.length (l.flatMap Need.row) ∧ Below w.heap.size w w':=by
  obtain ⟨A,c,rfl,hc1,hc2,f9,rfl,hk⟩:=bD Need.au h;have W9:=hc2;unfold maxLen at hc2;obtain ⟨f',raw,hrd,hls⟩:=WY h;obtain ⟨i1,hi1,hy0,hy1,hy2⟩:=info_parts TryzinfoStrC;have hN:=QX l l.length;have Hk:=Lib.hid hk;have Hl:=Lib.hid hls
  have HC:=Lib.hid (fun w' (hb : Below w.heap.size w w')=>Ec l A c raw w' hc1 hc2 (hrd.below hb) (fun u hu=>by
    obtain ⟨m,hm,rfl⟩:=List.getElem_of_mem hu;exact yT (hls.2 m _ _ (List.getElem?_eq_getElem hm) (List.getElem?_eq_getElem (by have:=hls.1; omega)))) (by omega))
  have Ov:=Lib.hid (fun j (hj : j ≤ l.length)=>K7 l j hj);have hn : l.length ≤ 1048576:=(by omega);obtain ⟨N,hNN⟩ : ∃ N,N = jO l l.length:=⟨_,rfl⟩;rw [← hNN] at hN Ov;have hN2 : N ≤ 1048576:=(by omega);have HN:=Lib.hid hNN;clear h hrd hls hw hN hk hNN W9;go_enter Tryz.func96,Tryz.ntmps96;go_wp2_with fail
  go_loopw [3,12] (fun a i wr=>∃ j : Nat,j ≤ l.length ∧ i = .int .i64 j ∧ a = .int .i64 (jO l j : Nat) ∧ Below w.heap.size w wr) (fun _ i _=>l.length - (intOf i).toNat)
  case atStart=>exact ⟨0,Nat.zero_le _,rfl,by rw [xE]; rfl,Below.refl _ _⟩
  case round=>
    obtain ⟨j,hj,rfl,rfl,hbel⟩:=hrel;have bg:=Lib.hid hbel;by_cases hlt : j < l.length
    · obtain ⟨g,o,A2,c2,rfl,q0,q1,q2,_⟩:=rE Hk.out hbel hlt;have q0:=q0 ⟨wr,Below.refl _ _⟩;have q1:=q1 ⟨wr,Below.refl _ _⟩;have q2:=q2 ⟨wr,Below.refl _ _⟩;simp only at q0 q1 q2;have hnx:=xG hlt;have hm1:=Ov.out (j + 1) hlt;have jK:=Lib.hid hnx;rw [hnx] at hm1;have HB:=Lib.hid (AU.new 69 wr [.string l[j].key,.int .i64 l[j].op,.slice A2 l[j].values.length c2]);have p2:=HB.out.cell (j:=2) rfl;have Hb2:=Lib.hid (ah hbel HB.out.1 hbel.size);clear hbel hnx;generalize jO l j = s1 at *;generalize l[j].key = xk at *;generalize l[j].op = xo at *;generalize l[j].values.length = xn at *;go_wp2_with fail
      go_roundw
      case rel=>exact ⟨j + 1,by omega,by go_num,by rw [jK.out]; go_num,Hb2.out⟩
      case measure=>simp [intOf]; omega
    · obtain rfl : j = l.length:=(by omega);rw [← HN.out];clear hbel;go_wp2_with (first | (at_make; refine wpList_make_full _ rfl _ _ 67 rfl w.heap.size 9 i1 (.string ⟨#[]⟩) 1 Tryz.underlying67 hi1 hy0 hy1 .i64 .i64 (N : Int) (N : Int) N rfl rfl rfl rfl (by rw [hy2]; omega) (by unfold maxLen; omega) bg.out.size ?_) | fail);intro w3 hown3 hg3;have hb3 : Below wr.heap.size wr w3:=⟨hg3.os,hg3.tape,hg3.output,hg3.size,fun k hk=>hg3.block k hk (by simp)⟩;have YN:=ah bg.out hb3 bg.out.size
      obtain ⟨cur,hcur,hcl⟩ : ∃ cur : List Value,w3.heap[wr.heap.size]? = some (.cells cur.toArray 9 (0,0)) ∧ cur.length = N:=by
        rcases hown3.2 with ⟨h0,_⟩ | ⟨g',cap,cur,hv,k1,k2,k3,k4,k5,k6⟩
        · cases h0
        · injection hv with hv _ hc;injection hv with hv;injection hv with hv;subst hv hc;exact ⟨cur.toList,by simpa using k2,by simpa using k5⟩
      have QY:=Lib.hid (And.intro hcur hcl);have Hb3:=Lib.hid YN;have Hr:=Lib.hid (And.intro (show w.heap.size ≤ wr.heap.size from bg.out.size) (show wr.heap.size < w3.heap.size from aX hcur));obtain ⟨r,hr⟩ : ∃ r,wr.heap.size = r:=⟨_,rfl⟩;rw [hr] at QY Hr ⊢;clear hown3 hg3 hb3 YN hcur hcl hr bg;go_wp2_with fail;refine (HC.out _ Hb3.out).mono ?_;rintro e w4 ⟨x,c1,rfl,nY,hb4⟩;have hx:=nY.lt x rfl
      have hCp : Cp w 69 9 x c1 r N l raw 0 raw [] cur w4:=by
        refine ⟨bR nY Hb3.out.size,rfl,by simpa using bF.nil,List.nodup_nil,fun p hp=>by simp at hp,eX hb4 Hr.out.2 QY.out.1,QY.out.2,fun e=>?_,Hr.out.1,ah Hb3.out hb4 Hb3.out.size⟩;have:=Hr.out.2;omega
      have HCp:=Lib.hid hCp;have hl0 : N = jO l 0 + N:=(by rw [xE]; omega);have Hl0:=Lib.hid hl0;clear nY hb4 hx hCp hl0 HC;go_wp2_with fail
      go_loopw [6,28] (fun rest i wr=>∃ (j m o : Nat) (xs : List Value) (F : List Cl) (cur : List Value),j ≤ l.length ∧ i = .int .i64 j ∧ rest = .slice (some ⟨r,o,none⟩) m m ∧ jO l j + m = N ∧ Hid (0 < m → o = jO l j) ∧ Hid (Cp w 69 9 x c1 r N l raw j xs F cur wr)) (fun _ i _=>l.length - (intOf i).toNat)
      case atStart=>exact ⟨0,N,0,raw,[],cur,Nat.zero_le _,rfl,rfl,Hl0.out.symm,fun _=>(xE l).symm,HCp.out⟩
      case round=>
        clear HCp Hl0 QY Hb3;obtain ⟨j,m,o,xs,F,YO,hj,rfl,rfl,hm,ho,hcp⟩:=hrel;by_cases hlt : j < l.length
        · obtain ⟨A2,c2,e0,e1,e2,hwf,hlv⟩:=WZ Hl.out hlt;rw [← rR hcp.out.drop 1] at e1;rw [← rR hcp.out.drop 2] at e2;rw [show j * 3 = j * 3 + 0 from rfl,← rR hcp.out.drop 0,Nat.add_zero] at e0;obtain ⟨A',c',hA',hq1,hq2,hr2,hz2⟩:=Str.opened (hlv.below hcp.out.gK);injection hA' with a1 _ a3;subst a1 a3;have hnx:=xG hlt;have hm1:=Ov.out (j + 1) hlt;rw [hnx] at hm1;obtain ⟨n,hn⟩ : ∃ n,n = l[j].values.length:=⟨_,rfl⟩;have hrow:=hcp.out.row;have q2 : wr.cell? ⟨x,j * 3 + 2,none⟩ = some (.slice A2 l[j].values.length c2):=(hrow.cellAt (j * 3 + 2) (by omega)).trans e2;have hxl:=hrow.lt x rfl;have hne:=hcp.out.ne;have HS:=Lib.hid (fun w4 w5 h4 hg4 h5=>Cp.step (w4:=w4) (w5:=w5) (n:=n) (A2:=A2) (c2:=c2) hcp.out hlt hn (by omega) e0 e1 (by rw [hn]; exact e2) hwf hz2 (by unfold maxLen; omega) (fun h0=>ho.out (by omega)) h4 hg4 h5);have Xa:=Lib.hid (And.intro hcp.out.blk hcp.out.len);have qP:=Lib.hid hr2;have YP:=Lib.hid (show (aT l[j].values).length = n by rw [bG,hn]);have QV:=Lib.hid (nW l[j].values);have pK:=Lib.hid hrow;have Hxl:=Lib.hid hxl;have Ho:=Lib.hid (show 0 < n → o = jO l j from fun h0=>ho.out (by omega));have jK:=Lib.hid (show jO l (j + 1) = jO l j + n by rw [hnx,hn]);rw [← hn] at q2 hr2 qP hm1;have hnm : n ≤ m:=(by omega);have Hho:=Lib.hid ho.out;have hsj : jO l j ≤ N:=(by omega);generalize aT l[j].values = cs at *;clear hnx hcp e0 e1 e2 hwf hlv hq1 hq2 hr2 hz2 hn hrow hxl ho;generalize jO l j = s1 at *;have j1 : (0 : Int) ≤ (j : Int):=(by omega);have j2 : (j : Int) < (l.length : Int):=(by omega);have j3 : (0 : Int) ≤ (n : Int):=(by omega);have j4 : (n : Int) ≤ (m : Int):=(by omega);have K1:=Lib.hid (show (Tryz.prog.info? 9).map (·.size) = some 1 by rw [hi1]; simp [hy1]);have K2 : Hid (cs.length = Nat.min n m):=(by unfold Hid; rw [YP.out]; exact (Nat.min_eq_left hnm).symm)
          have K3 : Hid (0 < cs.length → (some ⟨r,o,none⟩ : Option Addr) = some ⟨r,s1,none⟩ ∧ ∃ ad,A2 = some ad ∧ ∀ j v,cs[j]? = some v → wr.cell? (ad.add j) = some v):=fun h0=>by
            rw [YP.out] at h0;obtain ⟨g,o2,hA,_,hc⟩:=qP.out.2 h0;refine ⟨by rw [Ho.out h0],_,hA,fun i v hv=>?_⟩;rw [Addr.add_lit];exact hc i (by rw [← YP.out]; exact (List.getElem?_eq_some_iff.1 hv).1) v hv
          have K4 : Hid (s1 + cs.length ≤ YO.length):=(by unfold Hid; rw [YP.out,Xa.out.2]; omega);go_wp2_with (first | (refine vV rfl (.tmp 31) (.tmp 36) 67 67 rfl 9 Tryz.underlying67 K1.out (some ⟨r,o,none⟩) A2 m m n c2 rfl rfl r s1 YO 9 Xa.out.1 cs K2.out K3.out K4.out QV.out ?_) | fail);intro w4 h4 hg4;obtain ⟨w5,hz⟩ : ∃ w5,w4.setCell ⟨x,j * 3 + 2,none⟩ (.slice (some ⟨r,o,none⟩) n n) = w5:=⟨_,rfl⟩;obtain ⟨G,YQ⟩:=HS.out w4 w5 h4 hg4 hz.symm;have hrow4:=pK.out.kept hg4 (.inr (by simp [Value.ownBlock]; exact fun e=>hne e.symm));have hrl:=hrow4.1;obtain ⟨u4,p4⟩ : ∃ u,w4.cell? ⟨x,j * 3 + 2,none⟩ = some u:=⟨_,(hrow4.cellAt (j * 3 + 2) (by omega)).trans (List.getElem?_eq_getElem (by omega))⟩;have f4:=hrow4.frozenAt (j * 3 + 2);have HC5:=Lib.hid YQ;have Hz:=Lib.hid hz;have aeS:=YP.out;clear h4 hg4 YQ hrow4 hrl K1 K2 K3 K4 HS Xa qP pK Hxl QV q2 hne hz;by_cases hmn : m = n
          · subst hmn;go_wp2_with fail
            go_roundw
            case rel=>exact ⟨j + 1,0,o,_,_,_,by omega,by go_num,rfl,by rw [jK.out]; omega,fun h=>absurd h (by omega),(by rw [Hz.out]; exact HC5)⟩
            case measure=>simp [intOf]; omega
          · have aeT : ¬ n = m:=fun e=>hmn e.symm;go_wp2_with fail
            go_roundw
            case rel=>exact ⟨j + 1,m - n,o + n,_,_,_,by omega,by go_num,rfl,by rw [jK.out]; omega,fun h=>by rw [jK.out,Hho.out (by omega)],(by rw [Hz.out]; exact HC5)⟩
            case measure=>simp [intOf]; omega
        · obtain rfl : j = l.length:=(by omega);have HR:=Lib.hid (And.intro hcp.out.done hcp.out.gK);clear hcp ho;go_wp2_with fail;go_ret;exact ⟨_,_,rfl,HR.out⟩
end need
namespace pod
open Go.ChangeShapes Go.WideShapes Go.ChangeAt Go.RowKit ty lab need
theorem Ef (l : List Need) (f : Nat) (v : Value) (w : World) (h : bf w f v (.sl 3 l.length (l.flatMap Need.row))) (hw : l.length + bH Need.wt l ≤ 1048576) :
    Calls Tryz.prog 96 #[v] w fun e w'=>vU w w' e 3 Need.row l:=by
  refine (Ae l f v w h hw).mono ?_;rintro e w1 ⟨g,c,rfl,hrow,hb⟩;obtain ⟨F,ho,hnd,_⟩:=hrow.own;exact ⟨_,2,F,rfl,ho,hnd,hb⟩
end pod
namespace pod
open Go.ChangeShapes Go.WideShapes Go.ChangeAt Go.RowKit ty lab taint
theorem vW (l : List aj) (f : Nat) (v : Value) (w : World) (h : bf w f v (.sl 4 l.length (l.flatMap aj.row))) (hn : l.length ≤ 1048576) :
    Calls Tryz.prog 106 #[v] w fun e w'=>vU w w' e 4 aj.row l:=by
  have hwf : ∀ x ∈ l,x.Wf:=by
    obtain ⟨A,c,_,_,_,f',rfl,hk⟩:=bD aj.au h;exact (iI hk).2
  refine (om l f v w h hn).mono ?_;rintro e w1 ⟨g,c,rfl,hown,hb⟩;obtain ⟨F,ho,hnd,_⟩:=fB hown hwf;obtain ⟨G,a,b,_⟩:=ho.toC hnd;exact ⟨_,1,G,rfl,a,b,hb⟩
end pod
namespace pod
open Go.ChangeShapes Go.WideShapes Go.ChangeAt Go.RowKit ty lab need taint
set_option maxRecDepth 100000 in
set_option maxHeartbeats 16000000 in
theorem IG (x : Pod) (f : Nat) (us : List Value) (w : World) (h : aH w f us x.row) (hz : x.wt ≤ 1048576) :
    Calls Tryz.prog 38 #[.agg us.toArray] w fun e w'=>JV w x.row e w':=by
  obtain ⟨a0,a1,a2,a3,a4,a5,a6⟩:=x;obtain ⟨A1,c1,A5,c5,A6,c6,rfl,hwf,k1,m1,l1,k5,m5,l5,k6,m6,l6⟩:=Pod.opened h;unfold Pod.wt at hz;simp only at hz hwf k1 m1 l1 k5 m5 l5 k6 m6 l6;obtain ⟨w1,hw1⟩ : ∃ w1,w1 = (w.alloc (.cells #[.string a0,.slice A1 a1.length c1,.int .i64 a2,.int .i64 a3,.int .i64 a4,.slice A5 a5.length c5,.slice A6 a6.length c6] 28)).alloc (.cells #[.string ⟨#[]⟩,.slice none 0 0,.int .i64 0,.int .i64 0,.int .i64 0,.slice none 0 0,.slice none 0 0] 28):=⟨_,rfl⟩;have S0:=Lib.hid (show wL 28 w [.string a0,.slice A1 a1.length c1,.int .i64 a2,.int .i64 a3,.int .i64 a4,.slice A5 a5.length c5,.slice A6 a6.length c6] [.string ⟨#[]⟩,.slice none 0 0,.int .i64 0,.int .i64 0,.int .i64 0,.slice none 0 0,.slice none 0 0] w1 by rw [hw1]; exact wL.new);have T1:=Lib.hid (fun w' (hb : Below w.heap.size w w')=>uj a1 f _ w' (l1.below hb) (by omega));have T5:=Lib.hid (fun w' (hb : Below w.heap.size w w')=>Ef a5 f _ w' (l5.below hb) (by omega));have T6:=Lib.hid (fun w' (hb : Below w.heap.size w w')=>vW a6 f _ w' (l6.below hb) (by omega));have eU:=Lib.hid hwf;have eT:=Lib.hid hw1;clear h hz hwf hw1 k1 m1 l1 k5 m5 l5 k6 m6 l6;go_enter Tryz.func38,Tryz.ntmps38;go_wp2_with fail;rw [← eT.out];clear eT;refine (T1.out _ S0.out.gK).mono ?_;rintro e y1 ⟨v1,f1,F1,rfl,o1,n1,hb1⟩;obtain ⟨B1,d1,rfl,_,_⟩:=o1.eD;have g1:=o1.range;have oV : qh y1 w1.heap.size y1.heap.size (f1 + 1) (.slice B1 a1.length d1) (.sl 2 a1.length (a1.flatMap Label.row)) F1:=⟨o1,n1,g1⟩;have dn:=Lib.hid S0.out.lt;have kE:=Lib.hid (show w1.heap.size ≤ y1.heap.size from hb1.size);have jg:=S0.out.call hb1;have dM : (y1).cell? ⟨w.heap.size,1,none⟩ = some (.slice A1 a1.length c1):=jg.k0.cell 1 _ rfl;have Ic:=aC.frozen jg.k0 1;have kF : wL 28 w [.string a0,.slice B1 a1.length d1,.int .i64 a2,.int .i64 a3,.int .i64 a4,.slice A5 a5.length c5,.slice A6 a6.length c6] [.string ⟨#[]⟩,.slice none 0 0,.int .i64 0,.int .i64 0,.int .i64 0,.slice none 0 0,.slice none 0 0] ((y1).setCell ⟨w.heap.size,1,none⟩ (.slice B1 a1.length d1)):=jg.put 1 (.slice B1 a1.length d1);have jM:=qh.put (j:=1) (u:=.slice B1 a1.length d1) oV (show w.heap.size < _ by have:=dn.out; omega);obtain ⟨z1,hz1⟩ : ∃ z,(y1).setCell ⟨w.heap.size,1,none⟩ (.slice B1 a1.length d1) = z:=⟨_,rfl⟩;have hE1 : ((y1).setCell ⟨w.heap.size,1,none⟩ (.slice B1 a1.length d1)).heap.size = y1.heap.size:=(by simp only [size_setCell]);rw [hz1] at kF hE1 jM;have S1:=Lib.hid kF;have mK:=Lib.hid hE1;have jZ:=Lib.hid jM;clear hb1 o1 n1 g1 hE1 jg kF jM oV S0;have II:=S1.out.k0.cell 5 _ rfl;go_wp2_with fail;refine (T5.out _ S1.out.gK).mono ?_;rintro e y5 ⟨v5,f5,F5,rfl,o5,n5,hb5⟩;obtain ⟨B5,d5,rfl,_,_⟩:=o5.eD;have g5:=o5.range;have oZ : qh y5 z1.heap.size y5.heap.size (f5 + 1) (.slice B5 a5.length d5) (.sl 3 a5.length (a5.flatMap Need.row)) F5:=⟨o5,n5,g5⟩;have dF:=Lib.hid S1.out.lt;have kG:=Lib.hid (show z1.heap.size ≤ y5.heap.size from hb5.size);have jh:=S1.out.call hb5;have gU:=jZ.out.call hb5;have dL : (y5).cell? ⟨w.heap.size,5,none⟩ = some (.slice A5 a5.length c5):=jh.k0.cell 5 _ rfl;have Fa:=aC.frozen jh.k0 5;have kZ : wL 28 w [.string a0,.slice B1 a1.length d1,.int .i64 a2,.int .i64 a3,.int .i64 a4,.slice B5 a5.length d5,.slice A6 a6.length c6] [.string ⟨#[]⟩,.slice none 0 0,.int .i64 0,.int .i64 0,.int .i64 0,.slice none 0 0,.slice none 0 0] ((y5).setCell ⟨w.heap.size,5,none⟩ (.slice B5 a5.length d5)):=jh.put 5 (.slice B5 a5.length d5);have lg:=qh.put (j:=5) (u:=.slice B5 a5.length d5) oZ (show w.heap.size < _ by have:=dF.out; omega);have fu:=qh.put (j:=5) (u:=.slice B5 a5.length d5) gU (show w.heap.size < _ by have:=dn.out; omega);obtain ⟨z5,Et⟩ : ∃ z,(y5).setCell ⟨w.heap.size,5,none⟩ (.slice B5 a5.length d5) = z:=⟨_,rfl⟩;have xg : ((y5).setCell ⟨w.heap.size,5,none⟩ (.slice B5 a5.length d5)).heap.size = y5.heap.size:=(by simp only [size_setCell]);rw [Et] at kZ xg lg fu;have S5:=Lib.hid kZ;have mM:=Lib.hid xg;have iD:=Lib.hid lg;have iE:=Lib.hid fu;clear hb5 o5 n5 g5 xg jh kZ lg fu II oZ gU jZ S1;have Xb:=S5.out.k0.cell 6 _ rfl;go_wp2_with fail;refine (T6.out _ S5.out.gK).mono ?_;rintro e y6 ⟨v6,f6,F6,rfl,o6,n6,hb6⟩;obtain ⟨B6,d6,rfl,_,_⟩:=o6.eD;have g6:=o6.range;have Gn : qh y6 z5.heap.size y6.heap.size (f6 + 1) (.slice B6 a6.length d6) (.sl 4 a6.length (a6.flatMap aj.row)) F6:=⟨o6,n6,g6⟩;have gN:=Lib.hid S5.out.lt;have tJ:=Lib.hid (show z5.heap.size ≤ y6.heap.size from hb6.size);have vX:=S5.out.call hb6;have rT:=iD.out.call hb6;have rU:=iE.out.call hb6;have iO : (y6).cell? ⟨w.heap.size,6,none⟩ = some (.slice A6 a6.length c6):=vX.k0.cell 6 _ rfl;have QZ:=aC.frozen vX.k0 6;have Af : wL 28 w [.string a0,.slice B1 a1.length d1,.int .i64 a2,.int .i64 a3,.int .i64 a4,.slice B5 a5.length d5,.slice B6 a6.length d6] [.string ⟨#[]⟩,.slice none 0 0,.int .i64 0,.int .i64 0,.int .i64 0,.slice none 0 0,.slice none 0 0] ((y6).setCell ⟨w.heap.size,6,none⟩ (.slice B6 a6.length d6)):=vX.put 6 (.slice B6 a6.length d6);have Ag:=qh.put (j:=6) (u:=.slice B6 a6.length d6) Gn (show w.heap.size < _ by have:=gN.out; omega);have nA:=qh.put (j:=6) (u:=.slice B6 a6.length d6) rT (show w.heap.size < _ by have:=dF.out; omega);have nC:=qh.put (j:=6) (u:=.slice B6 a6.length d6) rU (show w.heap.size < _ by have:=dn.out; omega);obtain ⟨z6,XP⟩ : ∃ z,(y6).setCell ⟨w.heap.size,6,none⟩ (.slice B6 a6.length d6) = z:=⟨_,rfl⟩;have Ow : ((y6).setCell ⟨w.heap.size,6,none⟩ (.slice B6 a6.length d6)).heap.size = y6.heap.size:=(by simp only [size_setCell]);rw [XP] at Af Ow Ag nA nC;have S6:=Lib.hid Af;have xZ:=Lib.hid Ow;have nD:=Lib.hid Ag;have nE:=Lib.hid nA;have nG:=Lib.hid nC;clear hb6 o6 n6 g6 Ow vX Af Ag nA nC Xb Gn rT rU iD iE S5;have dJ:=S6.out.k0;have bJ:=S6.out.k1;unfold aC at bJ dJ;go_wp2_with (first | (refine wpList_load_row rfl 28 _ rfl w.heap.size rfl 28 #[.string a0,.slice B1 a1.length d1,.int .i64 a2,.int .i64 a3,.int .i64 a4,.slice B5 a5.length d5,.slice B6 a6.length d6] (0,0) _ dJ Tryz.underlying28 rfl aS ?_) | (refine wpList_store_row rfl 28 _ _ rfl (w.heap.size + 1) #[.string a0,.slice B1 a1.length d1,.int .i64 a2,.int .i64 a3,.int .i64 a4,.slice B5 a5.length d5,.slice B6 a6.length d6] rfl rfl 28 _ bJ aS rfl (by simp [Value.oneCell']) ?_) | fail);obtain ⟨F,ho,hnd,_⟩:=Pod.Aa (x:=⟨a0,a1,a2,a3,a4,a5,a6⟩) (f:=(f1 + f5 + f6)) (w:=z6.setRow (w.heap.size + 1) #[.string a0,.slice B1 a1.length d1,.int .i64 a2,.int .i64 a3,.int .i64 a4,.slice B5 a5.length d5,.slice B6 a6.length d6]) eU.out (nG.out.done (f':=(f1 + f5 + f6) + 1) (B':=w.heap.size) (c:=#[.string a0,.slice B1 a1.length d1,.int .i64 a2,.int .i64 a3,.int .i64 a4,.slice B5 a5.length d5,.slice B6 a6.length d6]) (show w.heap.size + 1 < _ by have:=mK.out; have:=kE.out; have:=dn.out; have:=mM.out; have:=kG.out; have:=dF.out; have:=xZ.out; have:=tJ.out; have:=gN.out; omega) (by have:=mK.out; have:=kE.out; have:=dn.out; have:=mM.out; have:=kG.out; have:=dF.out; have:=xZ.out; have:=tJ.out; have:=gN.out; omega) (by omega)) (nE.out.done (f':=(f1 + f5 + f6) + 1) (B':=w.heap.size) (c:=#[.string a0,.slice B1 a1.length d1,.int .i64 a2,.int .i64 a3,.int .i64 a4,.slice B5 a5.length d5,.slice B6 a6.length d6]) (show w.heap.size + 1 < _ by have:=mK.out; have:=kE.out; have:=dn.out; have:=mM.out; have:=kG.out; have:=dF.out; have:=xZ.out; have:=tJ.out; have:=gN.out; omega) (by have:=mK.out; have:=kE.out; have:=dn.out; have:=mM.out; have:=kG.out; have:=dF.out; have:=xZ.out; have:=tJ.out; have:=gN.out; omega) (by omega)) (nD.out.done (f':=(f1 + f5 + f6) + 1) (B':=w.heap.size) (c:=#[.string a0,.slice B1 a1.length d1,.int .i64 a2,.int .i64 a3,.int .i64 a4,.slice B5 a5.length d5,.slice B6 a6.length d6]) (show w.heap.size + 1 < _ by have:=mK.out; have:=kE.out; have:=dn.out; have:=mM.out; have:=kG.out; have:=dF.out; have:=xZ.out; have:=tJ.out; have:=gN.out; omega) (by have:=mK.out; have:=kE.out; have:=dn.out; have:=mM.out; have:=kG.out; have:=dF.out; have:=xZ.out; have:=tJ.out; have:=gN.out; omega) (by omega)) nG.out.gY nE.out.gY nD.out.gY (nG.out.apart nE.out (by have:=mK.out; have:=kE.out; have:=dn.out; have:=mM.out; have:=kG.out; have:=dF.out; have:=xZ.out; have:=tJ.out; have:=gN.out; omega)) (nG.out.apart nD.out (by have:=mK.out; have:=kE.out; have:=dn.out; have:=mM.out; have:=kG.out; have:=dF.out; have:=xZ.out; have:=tJ.out; have:=gN.out; omega)) (nE.out.apart nD.out (by have:=mK.out; have:=kE.out; have:=dn.out; have:=mM.out; have:=kG.out; have:=dF.out; have:=xZ.out; have:=tJ.out; have:=gN.out; omega));refine bodyPost_ret (v:=.agg #[.string a0,.slice B1 a1.length d1,.int .i64 a2,.int .i64 a3,.int .i64 a4,.slice B5 a5.length d5,.slice B6 a6.length d6]) ?_ rfl ⟨_,(f1 + f5 + f6),F,rfl,ho,hnd,ay S6.out.gK (by omega) _⟩;exact results_cell_row rfl _ _ (w.heap.size + 1) _ _ (0,0) _ rfl (aI bJ) Tryz.underlying28 rfl aS
end pod
end Go.Proofs.YtcfbkfmkjggcdaaGreatDoor
