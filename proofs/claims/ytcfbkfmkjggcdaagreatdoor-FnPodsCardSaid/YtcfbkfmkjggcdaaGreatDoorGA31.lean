/- Merged: SortNI CompTolerance OnceTolerance SrtTolerance. -/
import Derived.Test.YtcfbkfmkjggcdaaGreatDoorGA28
import Derived.Test.YtcfbkfmkjggcdaaGreatDoorGA18
import Derived.Test.YtcfbkfmkjggcdaaGreatDoorGA29
import Derived.Test.YtcfbkfmkjggcdaaGreatDoorGA30
import Derived.Test.YtcfbkfmkjggcdaaGreatDoorGA17
import Derived.Test.YtcfbkfmkjggcdaaGreatDoorSortNS
import Derived.Test.YtcfbkfmkjggcdaaGreatDoorGA6
import Derived.Test.YtcfbkfmkjggcdaaGreatDoorGA27
import Derived.Test.YtcfbkfmkjggcdaaGreatDoorGA3
import Derived.Test.YtcfbkfmkjggcdaaGreatDoorGA4
import Derived.Test.YtcfbkfmkjggcdaaGreatDoorGA13
import Derived.Test.YtcfbkfmkjggcdaaGreatDoorGA14
import Derived.Test.YtcfbkfmkjggcdaaGreatDoorGA1
import Derived.Test.YtcfbkfmkjggcdaaGreatDoorGA9
import Derived.Laws.Cover1
import Derived.Lib.SliceRun
import Derived.Test.YtcfbkfmkjggcdaaGreatDoorCmpOI
import Derived.Test.YtcfbkfmkjggcdaaGreatDoorShelf
set_option linter.unusedVariables false
namespace Go.Proofs.YtcfbkfmkjggcdaaGreatDoor
namespace need
open Go.ChangeShapes Go.WideShapes Go.ChangeAt Go.RowKit ty lab dedup
def xH (l : List Need) (j : Nat) : List Need:=(l.take j).map kH ++ l.drop j
theorem Aj (l : List Need) (j : Nat) : (xH l j).length = l.length:=by
  unfold xH;rw [List.length_append,List.length_map,List.length_take,List.length_drop];omega
theorem Rb {l : List Need} {j : Nat} (h : j < l.length) : (xH l j)[j]'(by rw [Aj]; exact h) = l[j]:=by
  unfold xH;rw [List.getElem_append_right (by simp [List.length_take]; omega)];simp [List.length_take,Nat.min_eq_left (Nat.le_of_lt h)]
theorem OA {l : List Need} {j : Nat} (h : j < l.length) : (xH l j).set j (kH l[j]) = xH l (j + 1):=by
  unfold xH;have hl : ((l.take j).map kH).length = j:=(by rw [List.length_map,List.length_take,Nat.min_eq_left (by omega)]);rw [List.set_append_right _ _ (by omega),hl,Nat.sub_self,List.take_succ_eq_append_getElem h,List.map_append];have e:=List.drop_eq_getElem_cons h;rw [e,List.set_cons_zero];simp
theorem Rc (l : List Need) : xH l l.length = l.map kH:=by
  unfold xH;simp
set_option maxRecDepth 1000000 in
set_option maxHeartbeats 16000000 in
theorem IW (l : List Need) (f : Nat) (v : Value) (w : World) (h : bf w f v (.sl 3 l.length (l.flatMap Need.row))) (hw : l.length + bH Need.wt l ≤ 1048576) :
    Calls Tryz.prog 35 #[v] w fun e w'=>rQ w w' e 3 Need.row (iF l):=by
  have Wp : ∀ i (h : i < l.length),l[i].values.length ≤ 1048576:=fun i h=>by
    have h1:=ko Need.wt h;have h2:=sU l[i];omega
  have HS:=Lib.hid (Bj l f v w h);have HC:=Lib.hid (fun w' (hb : Below w.heap.size w w')=>Ae l f v w' (h.below hb) hw);have Hw:=Lib.hid hw;obtain ⟨A,c,rfl,hc1,hc2,_⟩:=bD Need.au h;unfold maxLen at hc2;clear h Wp hw;by_cases hs : l.length ≤ 40 ∧ lC l l.length
  case neg=>
    rw [aP hs] at HS;rw [kI (fun h=>hs ⟨h.1,h.2.1⟩)];clear hs Hw;go_enter Tryz.func35,Tryz.ntmps35;go_wp2_with fail;refine HS.out.mono ?_;rintro e w1 ⟨rfl,hb1⟩;have Hb1:=Lib.hid hb1;clear hb1;go_wp2_with fail;refine (HC.out w1 Hb1.out).mono ?_;rintro e w2 ⟨g,cc,rfl,hrow,hb2⟩;obtain ⟨F,ho,hnd,_⟩:=hrow.own;have HR:=Lib.hid (show rQ w w2 (.returned (.tuple #[.slice (some ⟨g,0,none⟩) l.length cc,.bool false])) 3 Need.row (l,false) from ⟨_,_,F,rfl,ho.lower Hb1.out.size,hnd,ah Hb1.out hb2 Hb1.out.size⟩);clear hrow hb2 ho hnd HC HS;go_wp2_with fail
    go_ret2
    exact HR.out
  rw [aQ hs] at HS;obtain ⟨PL,FL⟩:=hs;have KJ:=Lib.hid FL;clear FL;go_enter Tryz.func35,Tryz.ntmps35;go_wp2_with fail;refine HS.out.mono ?_;rintro e w1 ⟨rfl,hb1⟩;have Hb1:=Lib.hid hb1;clear hb1 HS;go_wp2_with fail;refine (HC.out w1 Hb1.out).mono ?_;rintro e w2 ⟨g,cc,rfl,hrow,hb2⟩;have Hg:=Lib.hid (hrow.lt g rfl);have pK:=Lib.hid (show kM w2 w1.heap.size 2 69 3 (.slice (some ⟨g,0,none⟩) l.length cc) l.length ((xH l 0).flatMap Need.row) from by simpa [xH] using hrow);have Hb2:=Lib.hid (ah Hb1.out hb2 Hb1.out.size);clear hrow hb2;go_wp2_with fail
  go_loopw [15] (fun i wr=>∃ j : Nat,j ≤ l.length ∧ i = .int .i64 j ∧ kM wr w1.heap.size 2 69 3 (.slice (some ⟨g,0,none⟩) l.length cc) l.length ((xH l j).flatMap Need.row) ∧ Below w.heap.size w wr) (fun i _=>l.length - (intOf i).toNat)
  case atStart=>exact ⟨0,Nat.zero_le _,rfl,pK.out,Hb2.out⟩
  case round=>
    clear pK Hb2;obtain ⟨j,hj,rfl,hrow,hbel⟩:=hrel;have bg:=Lib.hid hbel;by_cases hlt : j < l.length
    · obtain ⟨d,hd1,hown,hnd⟩:=Ah hrow;have hdl : d.length = l.length:=(by rw [← List.length_map (f:=dS.x),hd1,Aj]);have hjd : j < d.length:=(by omega)
      have hx : d[j].x = l[j]:=by
        have h1 : (d.map dS.x)[j]'(by simpa using hjd) = d[j].x:=List.getElem_map ..;rw [← h1];simp only [hd1];exact Rb hlt
      obtain ⟨A2,c2,kN,hwf,hov⟩:=d[j].vals
      have q2 : wr.cell? ⟨g,j * 3 + 2,none⟩ = some (.slice A2 d[j].x.values.length c2):=by
        rw [hown.cellAt (j * 3 + 2) (by omega),gq dS.len d j 2 _ (List.getElem?_eq_getElem hjd) (by omega),kN];rfl
      have abM:=KJ.out j hlt hlt;have HO:=Lib.hid (Ld d[j].x.values _ _ _ _ _ wr hov (by rw [hx]; omega));have OB:=Lib.hid (fun w2 w3 (A : Option Addr) (cc' : Nat) (G : List Cl) (hk : nu d[j].F wr w2) (hG : G.Nodup) (hGF : ∀ x ∈ G,x ∈ d[j].F) (ho : dG w2 w1.heap.size 2 (.slice A (aU aJ d[j].x.values).length cc') (.sl 1 (aU aJ d[j].x.values).length ((aU aJ d[j].x.values).flatMap Str.row)) G) (h3 : w3 = w2.setCell ⟨g,j * 3 + 2,none⟩ (.slice A (aU aJ d[j].x.values).length cc'))=>Ra (w2:=w2) (w3:=w3) d hown hnd hjd (aU aJ d[j].x.values) A cc' G hk hG hGF ho h3)
      have hset : (d.map dS.x).set j ⟨d[j].x.key,d[j].x.op,aU aJ d[j].x.values⟩ = xH l (j + 1):=by
        rw [hd1,hx];exact OA hlt
      rw [hset] at OB;have YW:=Lib.hid d[j].out;have YX:=Lib.hid (fun x (hxF : x ∈ d[j].F)=>(d[j].own.range x hxF).1);have hown2:=Lib.hid hown;have Hgl:=Lib.hid (hown.lt g rfl);clear hd1 hnd hx hwf hov hset hrow hbel abM kN hown;generalize d[j].x.values.length = n2 at q2 HO;generalize aU aJ d[j].x.values = ds at HO OB;generalize d[j].F = Fj at HO OB YW YX;go_wp2_with fail;refine HO.out.mono ?_;rintro e w3 ⟨A3,c3,G3,rfl,ho3,hG3,YZ,hk3⟩;have hg3 : w3.heap[g]? = wr.heap[g]?:=hk3.block g Hgl.out.2 (fun hx=>let ⟨m,hm⟩:=qg.1 hx; YW.out _ hm rfl);have hown3:=CR hown2.out hg3;have p3 : ∃ u,w3.cell? ⟨g,j * 3 + 2,none⟩ = some u:=⟨_,(hown3.cellAt (j * 3 + 2) (by omega)).trans (List.getElem?_eq_getElem (by rw [sW]; omega))⟩;obtain ⟨u3,p3⟩:=p3;have f3:=hown3.frozenAt (j * 3 + 2);obtain ⟨w4,hz⟩ : ∃ w4,w3.setCell ⟨g,j * 3 + 2,none⟩ (.slice A3 ds.length c3) = w4:=⟨_,rfl⟩;obtain ⟨r1,r2⟩:=OB.out w3 w4 A3 c3 G3 hk3 hG3 YZ ho3 hz.symm;have Hr:=Lib.hid r1;have hge : w.heap.size ≤ w1.heap.size:=Hb1.out.size;have Hb4:=Lib.hid ((nu.below bg.out hk3 bg.out.size (fun x hx=>Nat.le_trans hge (YX.out x hx))).grown r2 (Nat.le_trans bg.out.size hk3.size) (fun b hb=>by injection hb with hb; subst hb; exact Nat.le_trans hge Hgl.out.1));clear r1 r2 ho3 hk3 hG3 YZ hg3 hown3 hown2 OB HO;go_wp2_with fail
      go_roundw
      case rel=>exact ⟨j + 1,by omega,by go_num,Hr.out,Hb4.out⟩
      case measure=>simp [intOf]; omega
    · obtain rfl : j = l.length:=(by omega);rw [Rc] at hrow;obtain ⟨d,hd1,hown,hnd⟩:=Ah hrow;have hdl : d.length = l.length:=(by rw [← List.length_map (f:=dS.x),hd1,List.length_map]);rw [← hdl] at hown;have HN:=Lib.hid (IU d cc wr (World.grownBy.refl _ _) hown (by omega));rw [hdl] at HN;have Hnd:=Lib.hid hnd;have Hgl:=Lib.hid (hown.lt g rfl);have Hd:=Lib.hid (show aU dA (d.map dS.x) = fH l by rw [hd1]; rfl);clear hrow hown hnd hd1 hbel hdl;go_wp2_with fail;refine HN.out.mono ?_;rintro e w3 ⟨d2,hd2,hn2,rfl,hown2,jk⟩;rw [Hd.out] at hd2;have hl2 : d2.length = (fH l).length:=(by rw [← hd2,List.length_map]);have hrow2:=IV d2 jk hown2 (hn2 Hnd.out);rw [hd2,hl2] at hrow2;rw [hl2];have hge : w.heap.size ≤ w1.heap.size:=Hb1.out.size;have Hb3:=Lib.hid (bg.out.grown jk bg.out.size (fun b hb=>by injection hb with hb; subst hb; exact Nat.le_trans hge Hgl.out.1));obtain ⟨F,ho,Y4,_⟩:=hrow2.own;have hwo:=Ns l;have hlo:=nX l;have hwl:=Hw.out;have HL:=Lib.hid (Gf (fH l) _ _ w3 ho.lies (by omega));have HR:=Lib.hid (fun w4 (hb : Below w3.heap.size w3 w4)=>show rQ w w4 (.returned (.tuple #[.slice (some ⟨g,0,none⟩) (fH l).length cc,.bool true])) 3 Need.row (fH l,true) from ⟨_,_,F,rfl,(ho.below hb).lower hge,Y4,ah Hb3.out hb Hb3.out.size⟩);clear hd2 hn2 hown2 jk hrow2 ho Y4 hwo hlo hwl HN Hnd Hd hl2;by_cases hP : mF (fH l)
      · rw [aQ hP] at HL;have HE:=Lib.hid (j5 (l:=l) ⟨PL,KJ.out,hP⟩);clear hP HC;generalize fH l = o at *;go_wp2_with fail;refine HL.out.mono ?_;rintro e w4 ⟨rfl,hb4⟩;go_wp2_with fail
        go_ret2
        rw [HE.out];exact HR.out _ hb4
      · rw [aP hP] at HL;have HE:=Lib.hid (kI (l:=l) (fun h=>hP h.2.2));clear hP HR;generalize fH l = o at *;go_wp2_with fail;refine HL.out.mono ?_;rintro e w4 ⟨rfl,hb4⟩;have Hb4:=Lib.hid (ah Hb3.out hb4 Hb3.out.size);clear hb4;go_wp2_with fail;refine (HC.out w4 Hb4.out).mono ?_;rintro e w5 ⟨g5,c5,rfl,og,hb5⟩;obtain ⟨F5,uP,Nw,_⟩:=og.own;have HR:=Lib.hid (show rQ w w5 (.returned (.tuple #[.slice (some ⟨g5,0,none⟩) l.length c5,.bool false])) 3 Need.row (l,false) from ⟨_,_,F5,rfl,uP.lower Hb4.out.size,Nw,ah Hb4.out hb5 Hb4.out.size⟩);clear og hb5 uP Nw HC;go_wp2_with fail
        go_ret2
        rw [HE.out];exact HR.out
end need
namespace taint
open Go.ChangeShapes Go.WideShapes Go.ChangeAt Go.RowKit ty lab dedup need
def jl (w : World) (b : Nat) : Prop:=w.cell? ⟨b,0,none⟩ = some (.func (.func 103) #[] #[])
set_option maxRecDepth 100000 in
theorem pF (x y : aj) (b : Nat) (w : World) (h : jl w b) :
    Calls Tryz.prog 215 #[.agg #[.string x.key,.bool x.equal,.string x.value,.int .i64 x.effect],.agg #[.string y.key,.bool y.equal,.string y.value,.int .i64 y.effect],.pointer (some ⟨b,0,none⟩)] w fun e w'=>e = .returned (.bool (yes (x = y))) ∧ Below w.heap.size w w':=by
  rw [← iK.zero Qk x y];have HB:=Lib.hid (oQ.new 86 w [.string x.key,.bool x.equal,.string x.value,.int .i64 x.effect] [.string y.key,.bool y.equal,.string y.value,.int .i64 y.effect]);have HC:=Lib.hid (fun w'=>nk (xC x y w'));have p0:=HB.out.cell1 (j:=0) rfl;have p1:=HB.out.cell1 (j:=1) rfl;have p2:=HB.out.cell1 (j:=2) rfl;have p3:=HB.out.cell1 (j:=3) rfl;have q0:=HB.out.fO (j:=0) rfl;have q1:=HB.out.fO (j:=1) rfl;have q2:=HB.out.fO (j:=2) rfl;have q3:=HB.out.fO (j:=3) rfl;have r0:=(HB.out.1.1.cell (World.block_lt_of_cell? _ _ h)).trans h;clear h;generalize zw x y = r at HC ⊢;go_enter Tryz.func215,Tryz.ntmps215;go_wp2_with fail;refine (HC.out _).mono ?_;rintro e x1 ⟨rfl,hb⟩;have G:=Lib.hid (HB.out.1.1.trans (hb.mono HB.out.1.1.size));clear hb;go_wp2_with fail;go_ret;exact ⟨rfl,G.out⟩
def lJ (l : List aj) (B g c : Nat) (w : World) (e : Ending) (w' : World) : Prop:=
  ∃ d : List aj,d = iy id l l.length ∧ e = .returned (.slice (some ⟨g,0,none⟩) d.length c) ∧ w'.ownsRow B 86 4 (.slice (some ⟨g,0,none⟩) d.length c) d.length (d.flatMap aj.cells) ∧ w.grownBy w' (some g)
set_option maxRecDepth 100000 in
set_option maxHeartbeats 32000000 in
theorem Ak (l : List aj) (B g c b : Nat) (w : World) (hown : w.ownsRow B 86 4 (.slice (some ⟨g,0,none⟩) l.length c) l.length (l.flatMap aj.cells)) (hn : l.length ≤ 1048576) (hb : jl w b) (hbg : b ≠ g) :
    Calls Tryz.prog 214 #[.slice (some ⟨g,0,none⟩) l.length c,.func (.func 215) #[] #[.pointer (some ⟨b,0,none⟩)]] w fun e w'=>lJ l B g c w e w':=by
  have hcc : l.length ≤ c ∧ c ≤ maxLen:=by
    obtain ⟨c',e,h1,h2,_⟩:=iB hown rfl;injection e with _ _ e;subst e;exact ⟨h1,h2⟩
  obtain ⟨hc1,hc2⟩:=hcc;unfold maxLen at hc2;have mq:=(hown.lt g rfl).2;have hblt:=World.block_lt_of_cell? _ _ hb;have dY:=Lib.hid hown;have Hb:=Lib.hid hb;have iT : Hid ((∀ q (h : q + 1 < l.length),l[q + 1] ≠ l[q]) → iy id l l.length = l):=fun h=>D5 (κ:=id) h;clear hown hb;by_cases h2 : l.length < 2
  · have e:=iT.out fun q hq=>by omega
    have hlt2 : (l.length : Int) < 2:=(by omega);have HR:=Lib.hid (show lJ l B g c w (.returned (.slice (some ⟨g,0,none⟩) l.length c)) w from ⟨l,e.symm,rfl,dY.out,World.grownBy.refl _ _⟩);clear e iT dY Hb;go_enter Tryz.func214,Tryz.ntmps214;go_wp2_with fail;go_ret;exact HR.out
  have Xc : ¬ (l.length : Int) < 2:=(by omega);go_enter Tryz.func214,Tryz.ntmps214;go_wp2_with fail
  go_loopw [5] (fun i wr=>∃ j : Nat,1 ≤ j ∧ j ≤ l.length ∧ i = .int .i64 j ∧ Hid (∀ q (h : q + 1 < l.length),q + 1 < j → l[q + 1] ≠ l[q]) ∧ Below w.heap.size w wr) (fun i _=>l.length - (intOf i).toNat)
  case atStart=>exact ⟨1,Nat.le_refl _,by omega,rfl,fun q _ hq=>by omega,Below.refl _ _⟩
  case round=>
    obtain ⟨k,hk1,hk,rfl,hall,hbel⟩:=hrel;obtain ⟨m,hm⟩ : ∃ m,m + 1 = k:=⟨k - 1,by omega⟩;by_cases hlt : k < l.length
    · have hml : m < l.length:=(by omega);have hown1:=own_below' dY.out hbel;have hgb : g < wr.heap.size:=Nat.lt_of_lt_of_le mq hbel.size;have YS : ∀ p : ak wr,p.v.cell? ⟨g,k * 4,none⟩ = some (.string l[k].key):=fun p=>p.cell hgb (flt.cell_of aj.aD hown1 hlt (i:=0) (by omega) rfl);have YT : ∀ p : ak wr,p.v.cell? ⟨g,k * 4 + 1,none⟩ = some (.bool l[k].equal):=fun p=>p.cell hgb (flt.cell_of aj.aD hown1 hlt (i:=1) (by omega) rfl);have TN : ∀ p : ak wr,p.v.cell? ⟨g,k * 4 + 2,none⟩ = some (.string l[k].value):=fun p=>p.cell hgb (flt.cell_of aj.aD hown1 hlt (i:=2) (by omega) rfl);have q13 : ∀ p : ak wr,p.v.cell? ⟨g,k * 4 + 3,none⟩ = some (.int .i64 l[k].effect):=fun p=>p.cell hgb (flt.cell_of aj.aD hown1 hlt (i:=3) (by omega) rfl);have YU : ∀ p : ak wr,p.v.cell? ⟨g,m * 4,none⟩ = some (.string l[m].key):=fun p=>p.cell hgb (flt.cell_of aj.aD hown1 hml (i:=0) (by omega) rfl);have q01 : ∀ p : ak wr,p.v.cell? ⟨g,m * 4 + 1,none⟩ = some (.bool l[m].equal):=fun p=>p.cell hgb (flt.cell_of aj.aD hown1 hml (i:=1) (by omega) rfl);have TM : ∀ p : ak wr,p.v.cell? ⟨g,m * 4 + 2,none⟩ = some (.string l[m].value):=fun p=>p.cell hgb (flt.cell_of aj.aD hown1 hml (i:=2) (by omega) rfl);have q03 : ∀ p : ak wr,p.v.cell? ⟨g,m * 4 + 3,none⟩ = some (.int .i64 l[m].effect):=fun p=>p.cell hgb (flt.cell_of aj.aD hown1 hml (i:=3) (by omega) rfl);have HE:=Lib.hid (fun p : ak wr=>pF l[k] l[m] b p.v (p.cell (Nat.lt_of_lt_of_le hblt hbel.size) ((hbel.cell hblt).trans Hb.out)));have yZ : (k : Int) - 1 = (m : Int):=(by omega);have BN : IntKind.i64.wrap (m : Int) = (m : Int):=IntWalk.i64_in _ (by omega);have hm0 : (0 : Int) ≤ (m : Int):=(by omega);have hm1 : (m : Int) < (l.length : Int):=(by omega);have hj0 : (0 : Int) ≤ (k : Int):=(by omega);have hj1 : (k : Int) < (l.length : Int):=(by omega);have bg:=Lib.hid hbel;by_cases he : l[k] = l[m]
      case neg=>
        have Hn : Hid (∀ q (h : q + 1 < l.length),q + 1 < k + 1 → l[q + 1] ≠ l[q]):=fun q h hq=>by
          by_cases e : q = m
          · subst e; subst hm; exact he
          · exact hall.out q h (by omega)
        rw [aP he] at HE;clear he hall hbel hown1 iT hm;generalize Value.string l[k].key = u0 at *;generalize Value.bool l[k].equal = u1 at *;generalize Value.string l[k].value = u2 at *;generalize Value.int .i64 l[k].effect = u3 at *;generalize Value.string l[m].key = v0 at *;generalize Value.bool l[m].equal = v1 at *;generalize Value.string l[m].value = v2 at *;generalize Value.int .i64 l[m].effect = v3 at *;go_wp2_with fail;refine wp_region_quiet_below (by kernel_rfl) (by kernel_rfl) ?_
        repeat (refine @wpQuiet_step _ _ _ _ _ _ _ ?_; intro K hK; go_simp; first | (refine hK _ ?_; clear hK K) | (apply Exists.intro; refine ⟨fun _=>?_,hK _ ?_⟩; (first | (go_at_call 215; exact Calls.aF (HE.out _))); clear hK K))
        refine wpQuiet_nil ?_;intro _ hw';obtain ⟨p,rfl⟩:=hw';go_wp2_with fail
        go_roundw
        case rel=>exact ⟨k + 1,by omega,by omega,by go_num,Hn.out,bg.out.trans (p.h.mono bg.out.size)⟩
        case measure=>simp [intOf]; omega
      rw [aQ he] at HE
      have DC:=Lib.hid (show kR id l (k + 1) k l from by
        subst hm;exact kR.start (κ:=id) hlt (fun q h hq=>hall.out q h hq) he)
      have hown1:=Lib.hid hown1;clear he hall hbel iT hm;generalize Value.string l[k].key = u0 at *;generalize Value.bool l[k].equal = u1 at *;generalize Value.string l[k].value = u2 at *;generalize Value.int .i64 l[k].effect = u3 at *;generalize Value.string l[m].key = v0 at *;generalize Value.bool l[m].equal = v1 at *;generalize Value.string l[m].value = v2 at *;generalize Value.int .i64 l[m].effect = v3 at *;go_wp2_with fail;refine wp_region_quiet_below (by kernel_rfl) (by kernel_rfl) ?_
      repeat (refine @wpQuiet_step _ _ _ _ _ _ _ ?_; intro K hK; go_simp; first | (refine hK _ ?_; clear hK K) | (apply Exists.intro; refine ⟨fun _=>?_,hK _ ?_⟩; (first | (go_at_call 215; exact Calls.aF (HE.out _))); clear hK K))
      refine wpQuiet_nil ?_;intro _ hw';obtain ⟨p,rfl⟩:=hw';have hown2:=Lib.hid (own_below' hown1.out p.h);have jk:=Lib.hid (aR (bg.out.trans (p.h.mono bg.out.size)) (some g));clear YU YS q01 YT TM TN q03 q13 HE yZ BN hm0 hm1;go_wp2_with fail
      go_loopw [5,7] (fun i1 i2 wi=>∃ (kk k2 : Nat) (dk : List aj),i1 = .int .i64 kk ∧ i2 = .int .i64 k2 ∧ 1 ≤ k2 ∧ Hid (kR id l (k + k2) kk dk) ∧ wi.ownsRow B 86 4 (.slice (some ⟨g,0,none⟩) l.length c) l.length (dk.flatMap aj.cells) ∧ w.grownBy wi (some g)) (fun _ i2 _=>l.length - (k + (intOf i2).toNat))
      case atStart=>exact ⟨k,1,l,rfl,rfl,Nat.le_refl _,DC.out,hown2.out,jk.out⟩
      case round=>
        obtain ⟨kk,k2,dk,rfl,rfl,hk2,hI,hown,hgr⟩:=hrel;have hcl:=hI.out;have Xd:=hcl.lt;have hdl:=hcl.len;have hle:=hcl.le;have hgw : g < wr.heap.size:=Nat.lt_of_lt_of_le mq hgr.size;have hbw : wr.heap[b]? = w.heap[b]?:=hgr.block b hblt (fun e=>hbg (by injection e));have hbw2 : b < wr.heap.size:=Nat.lt_of_lt_of_le hblt hgr.size;have hb2 : jl wr b:=(World.cell?_of_block hbw).trans Hb.out;have dY:=Lib.hid hown;have nI:=Lib.hid hgr;by_cases hlt2 : k + k2 < l.length
        · obtain ⟨m2,hm2⟩ : ∃ m2,m2 + 1 = k2:=⟨k2 - 1,by omega⟩;have hkm : k + m2 < l.length:=(by omega);have ek : dk[k + k2]'(by omega) = l[k + k2]:=hcl.high (k + k2) (by omega) hlt2 (by omega);have em : dk[k + m2]'(by omega) = l[k + m2]:=hcl.high (k + m2) (by omega) hkm (by omega)
          have r10 : ∀ p : ak wr,p.v.cell? ⟨g,k * 4 + k2 * 4,none⟩ = some (.string l[k + k2].key):=fun p=>by
            rw [← Nat.add_mul];exact p.cell hgw (flt.cell_of aj.aD hown (j:=k + k2) (by omega) (i:=0) (by omega) (by rw [ek]; rfl))
          have r11 : ∀ p : ak wr,p.v.cell? ⟨g,k * 4 + k2 * 4 + 1,none⟩ = some (.bool l[k + k2].equal):=fun p=>by
            rw [← Nat.add_mul];exact p.cell hgw (flt.cell_of aj.aD hown (j:=k + k2) (by omega) (i:=1) (by omega) (by rw [ek]; rfl))
          have r12 : ∀ p : ak wr,p.v.cell? ⟨g,k * 4 + k2 * 4 + 2,none⟩ = some (.string l[k + k2].value):=fun p=>by
            rw [← Nat.add_mul];exact p.cell hgw (flt.cell_of aj.aD hown (j:=k + k2) (by omega) (i:=2) (by omega) (by rw [ek]; rfl))
          have r13 : ∀ p : ak wr,p.v.cell? ⟨g,k * 4 + k2 * 4 + 3,none⟩ = some (.int .i64 l[k + k2].effect):=fun p=>by
            rw [← Nat.add_mul];exact p.cell hgw (flt.cell_of aj.aD hown (j:=k + k2) (by omega) (i:=3) (by omega) (by rw [ek]; rfl))
          have r00 : ∀ p : ak wr,p.v.cell? ⟨g,k * 4 + m2 * 4,none⟩ = some (.string l[k + m2].key):=fun p=>by
            rw [← Nat.add_mul];exact p.cell hgw (flt.cell_of aj.aD hown (j:=k + m2) (by omega) (i:=0) (by omega) (by rw [em]; rfl))
          have r01 : ∀ p : ak wr,p.v.cell? ⟨g,k * 4 + m2 * 4 + 1,none⟩ = some (.bool l[k + m2].equal):=fun p=>by
            rw [← Nat.add_mul];exact p.cell hgw (flt.cell_of aj.aD hown (j:=k + m2) (by omega) (i:=1) (by omega) (by rw [em]; rfl))
          have r02 : ∀ p : ak wr,p.v.cell? ⟨g,k * 4 + m2 * 4 + 2,none⟩ = some (.string l[k + m2].value):=fun p=>by
            rw [← Nat.add_mul];exact p.cell hgw (flt.cell_of aj.aD hown (j:=k + m2) (by omega) (i:=2) (by omega) (by rw [em]; rfl))
          have r03 : ∀ p : ak wr,p.v.cell? ⟨g,k * 4 + m2 * 4 + 3,none⟩ = some (.int .i64 l[k + m2].effect):=fun p=>by
            rw [← Nat.add_mul];exact p.cell hgw (flt.cell_of aj.aD hown (j:=k + m2) (by omega) (i:=3) (by omega) (by rw [em]; rfl))
          have HE:=Lib.hid (fun p : ak wr=>pF l[k + k2] l[k + m2] b p.v (p.cell hbw2 hb2));have i1 : (k2 : Int) - 1 = (m2 : Int):=(by omega);have i2 : IntKind.i64.wrap (m2 : Int) = (m2 : Int):=IntWalk.i64_in _ (by omega);have i3 : (0 : Int) ≤ (m2 : Int):=(by omega);have i4 : (0 : Int) ≤ (k2 : Int):=(by omega);have i5 : k2 < l.length - k:=(by omega);have i6 : m2 < l.length - k:=(by omega);have i7 : (k2 : Int) < ((l.length - k : Nat) : Int):=(by omega);have i8 : (m2 : Int) < ((l.length - k : Nat) : Int):=(by omega);by_cases he2 : l[k + k2] = l[k + m2]
          · have Hn:=Lib.hid (show kR id l (k + (k2 + 1)) kk dk from by
              subst hm2;exact hcl.skip (κ:=id) hlt2 he2)
            rw [aQ he2] at HE;clear he2 hI hown hgr hcl hb2 hbw hm2 hdl hle ek em;generalize Value.string l[k + k2].key = u0 at *;generalize Value.bool l[k + k2].equal = u1 at *;generalize Value.string l[k + k2].value = u2 at *;generalize Value.int .i64 l[k + k2].effect = u3 at *;generalize Value.string l[k + m2].key = v0 at *;generalize Value.bool l[k + m2].equal = v1 at *;generalize Value.string l[k + m2].value = v2 at *;generalize Value.int .i64 l[k + m2].effect = v3 at *;go_wp2_with fail;refine wp_region_quiet_below (by kernel_rfl) (by kernel_rfl) ?_
            repeat (refine @wpQuiet_step _ _ _ _ _ _ _ ?_; intro K hK; go_simp; first | (refine hK _ ?_; clear hK K) | (apply Exists.intro; refine ⟨fun _=>?_,hK _ ?_⟩; (first | (go_at_call 215; exact Calls.aF (HE.out _))); clear hK K))
            refine wpQuiet_nil ?_;intro _ hw';obtain ⟨p2,rfl⟩:=hw';have hown3:=Lib.hid (own_below' dY.out p2.h);have lG:=Lib.hid (aA nI.out (aR p2.h (some g)));go_wp2_with fail
            go_roundw
            case rel=>exact ⟨kk,k2 + 1,dk,rfl,by go_num,by omega,Hn.out,hown3.out,lG.out⟩
            case measure=>simp [intOf]; omega
          · have Hn:=Lib.hid (show kR id l (k + (k2 + 1)) (kk + 1) (dk.set kk l[k + k2]) from by
              subst hm2;exact hcl.keep (κ:=id) hlt2 he2)
            rw [aP he2] at HE;have OC : ∀ p : ak wr,∃ u,p.v.cell? ⟨g,kk * 4,none⟩ = some u ∧ p.v.frozen? ⟨g,kk * 4,none⟩ = false:=fun p=>⟨_,((own_below' hown p.h).cellAt (kk * 4 + 0) (by omega)).trans (List.getElem?_eq_getElem (by rw [aM aj.aD]; omega)),(own_below' hown p.h).frozenAt (kk * 4 + 0)⟩;have OD : ∀ p : ak wr,∃ u,p.v.cell? ⟨g,kk * 4 + 1,none⟩ = some u ∧ p.v.frozen? ⟨g,kk * 4 + 1,none⟩ = false:=fun p=>⟨_,((own_below' hown p.h).cellAt (kk * 4 + 1) (by omega)).trans (List.getElem?_eq_getElem (by rw [aM aj.aD]; omega)),(own_below' hown p.h).frozenAt (kk * 4 + 1)⟩;have OE : ∀ p : ak wr,∃ u,p.v.cell? ⟨g,kk * 4 + 2,none⟩ = some u ∧ p.v.frozen? ⟨g,kk * 4 + 2,none⟩ = false:=fun p=>⟨_,((own_below' hown p.h).cellAt (kk * 4 + 2) (by omega)).trans (List.getElem?_eq_getElem (by rw [aM aj.aD]; omega)),(own_below' hown p.h).frozenAt (kk * 4 + 2)⟩;have Y7 : ∀ p : ak wr,∃ u,p.v.cell? ⟨g,kk * 4 + 3,none⟩ = some u ∧ p.v.frozen? ⟨g,kk * 4 + 3,none⟩ = false:=fun p=>⟨_,((own_below' hown p.h).cellAt (kk * 4 + 3) (by omega)).trans (List.getElem?_eq_getElem (by rw [aM aj.aD]; omega)),(own_below' hown p.h).frozenAt (kk * 4 + 3)⟩;have hS:=fun p : ak wr=>iq [.string l[k + k2].key,.bool l[k + k2].equal,.string l[k + k2].value,.int .i64 l[k + k2].effect] _ (kk * 4) p.v (own_below' hown p.h);rw [show pO (dk.flatMap aj.cells) (kk * 4) [.string l[k + k2].key,.bool l[k + k2].equal,.string l[k + k2].value,.int .i64 l[k + k2].effect] = (dk.set kk l[k + k2]).flatMap aj.cells from flt.Ey aj.aD dk kk l[k + k2] (by omega)] at hS;have hS:=Lib.hid hS;have hkn : kk < l.length:=(by omega);have j1 : (kk : Int) < (l.length : Int):=(by omega);have j2 : (0 : Int) ≤ (kk : Int):=(by omega);clear he2 hI hown hgr hcl hb2 hbw hm2 hdl hle ek em;generalize l[k + k2] = x2 at r10 r11 r12 r13 HE Hn hS;generalize l[k + m2] = y2 at r00 r01 r02 r03 HE;go_wp2_with fail;refine wp_region_quiet_below (by kernel_rfl) (by kernel_rfl) ?_
            repeat (refine @wpQuiet_step _ _ _ _ _ _ _ ?_; intro K hK; go_simp; first | (refine hK _ ?_; clear hK K) | (apply Exists.intro; refine ⟨fun _=>?_,hK _ ?_⟩; (first | (go_at_call 215; exact Calls.aF (HE.out _))); clear hK K))
            refine wpQuiet_nil ?_;intro _ hw';obtain ⟨p2,rfl⟩:=hw';obtain ⟨z0,hz0,hf0⟩:=OC p2;obtain ⟨z1,hz1,hf1⟩:=OD p2;obtain ⟨z2,hz2,hf2⟩:=OE p2;obtain ⟨z3,hz3,hf3⟩:=Y7 p2;have hown3:=Lib.hid (hS.out p2).1;have lG:=Lib.hid (aA nI.out (aA (aR p2.h (some g)) (hS.out p2).2));clear OC OD OE Y7 hS;go_wp2_with fail
            go_roundw
            case rel=>exact ⟨kk + 1,k2 + 1,_,by go_num,by go_num,by omega,Hn.out,hown3.out,lG.out⟩
            case measure=>simp [intOf]; omega
        · have hend : k + k2 = l.length:=(by omega);have e1:=hcl.KO;have e2:=hcl.out;rw [hend] at e1 e2;have hkk : kk < l.length:=(by omega);obtain ⟨zs,hzs⟩ : ∃ zs,zs = (Builtin.zeroCells (Value.agg #[.string ⟨#[]⟩,.bool false,.string ⟨#[]⟩,.int .i64 0]).cells (l.length - kk)).toList:=⟨_,rfl⟩
          have Xe : ∀ ty,(Builtin.clear_ #[26] ty #[.slice (some ⟨g,kk * 4,none⟩) (l.length - kk) (c - kk)]).run Tryz.prog wr = .ok (.tuple #[]) (wr.setCells g (kk * 4) zs):=
            fun ty=>by
              rw [hzs]
              exact qW wr _ _ ty _ Tryz.underlying26 Tryz.zeroValue86 (by decide) g (kk * 4) _ _ (by omega) (by decide) (fun j hj=>by
                have hz : (Value.agg #[.string ⟨#[]⟩,.bool false,.string ⟨#[]⟩,.int .i64 0]).cells.size = 4:=(by decide);rw [hz] at hj;rw [hown.cellAt (kk * 4 + j) (by omega),List.getElem?_eq_getElem (by rw [aM aj.aD]; omega)]; rfl) (fun j hj=>hown.frozenAt (kk * 4 + j))
          obtain ⟨hs1,hs2⟩:=iq zs _ (kk * 4) wr hown;have hs3:=uH hs1 (show kk ≤ l.length by omega);rw [qX _ _ _ _ (Nat.le_refl _),flt.kV aj.aD dk kk,e2] at hs3;have HR:=Lib.hid (show lJ l B g c w (.returned (.slice (some ⟨g,0,none⟩) kk c)) (wr.setCells g (kk * 4) zs) from ⟨_,rfl,by rw [e1],by rw [e1]; exact hs3,aA hgr hs2⟩);have j0 : ¬ k2 < l.length - k:=(by omega);have j1 : (kk : Int) ≤ (l.length : Int):=(by omega);have j2 : (0 : Int) ≤ (kk : Int):=(by omega);have j3 : ¬ c = kk:=(by omega);have j4 : kk ≤ c:=(by omega);clear hI hown hgr hcl hb2 hbw hdl hle e1 e2 hs1 hs2 hs3 nI dY hzs;go_wp2_with fail;go_ret;exact HR.out
    · have hkl : k = l.length:=(by omega);clear hm;subst hkl;have e:=iT.out fun q hq=>hall.out q hq (by omega);have HR:=Lib.hid (show lJ l B g c w (.returned (.slice (some ⟨g,0,none⟩) l.length c)) wr from ⟨l,e.symm,rfl,own_below' dY.out hbel,aR hbel _⟩);clear e iT hall hbel dY Hb;go_wp2_with fail;go_ret;exact HR.out
end taint
namespace taint
open Go.ChangeShapes Go.WideShapes Go.ChangeAt Go.RowKit ty lab dedup need
open Go.Sort (SWO PermIn SortedIn grow)
set_option maxRecDepth 100000 in
theorem Al (l : List aj) (B g c : Nat) (w : World) (hown : w.ownsRow B 86 4 (.slice (some ⟨g,0,none⟩) l.length c) l.length (l.flatMap aj.cells)) (hn : l.length ≤ 1048576) :
    Calls Tryz.prog 213 #[.slice (some ⟨g,0,none⟩) l.length c,.func (.func 103) #[] #[]] w fun e w'=>e = .returned (.tuple #[]) ∧
      ∃ d : List aj,List.Perm d l ∧ d.Pairwise (fun a b=>bU b a = false) ∧ w'.ownsRow B 86 4 (.slice (some ⟨g,0,none⟩) d.length c) d.length (d.flatMap aj.cells) ∧ w.grownBy w' (some g):=by
  by_cases h0 : l = []
  · subst h0;refine (AnyF.slices_SortFunc_none Tryz.sortTol (some ⟨g,0,none⟩) c _ w).mono ?_;rintro e w' ⟨rfl,rfl⟩;exact ⟨rfl,[],List.Perm.refl _,List.Pairwise.nil,hown,World.grownBy.refl _ _⟩
  have eg : ∀ args w,(callFunc 103 args).run Tryz.prog w = .ok (.enter 103 args) w:=enters_of Tryz.func103 (by kernel_rfl) rfl;have hcon:=AnyQ.slices_SortFunc Tryz.sortTol 4 Tryz.isAgg86 Tryz.sizeOf86 aj.cells aj.aD aj.cells_one zw (iK.swo Qk ES) 103 #[] g 0 c l.toArray w eg (fun m os dk hs x y=>xC x y _) (qj (enc:=aj.cells) (k:=4) aj.aD hown) (hown.lt g rfl).2 (by simp; omega);have hs : l.toArray.size = l.length:=(by simp);rw [hs] at hcon;refine hcon.mono ?_;rintro e w' ⟨rfl,d',n,os,hp,hso,rfl⟩;obtain ⟨hsz,_,hperm⟩:=hp;rw [← hs,Array.extract_size] at hperm;have e2 : d'.extract 0 l.toArray.size = d':=(by rw [← hsz]; exact Array.extract_size);rw [e2] at hperm;have hl : d'.toList.length = l.length:=(by rw [Array.length_toList,hsz,hs]);refine ⟨rfl,d'.toList,by simpa using hperm,?_,?_,gy _ _⟩
  · rw [List.pairwise_iff_getElem];intro i j hi hj hij;have h1:=hso i j (Nat.zero_le _) hij (by omega);have hi' : i < d'.size:=(by simpa using hi);have hj' : j < d'.size:=(by simpa using hj);rw [getElem!_pos d' i hi',getElem!_pos d' j hj',iK.YM Qk ES] at h1;exact h1
  · have:=oo (n:=n) (os:=os) (enc:=aj.cells) aj.aD hl hown;rw [hl] at this ⊢;exact this
def um (l : List aj) (B g c : Nat) (w : World) (e : Ending) (w' : World) : Prop:=
  e = .returned (.slice (some ⟨g,0,none⟩) (aU bU l).length c) ∧ w'.ownsRow B 86 4 (.slice (some ⟨g,0,none⟩) (aU bU l).length c) (aU bU l).length ((aU bU l).flatMap aj.cells) ∧ w.grownBy w' (some g)
set_option maxRecDepth 100000 in
set_option maxHeartbeats 8000000 in
theorem Ap (l : List aj) (B g c : Nat) (w : World) (hown : w.ownsRow B 86 4 (.slice (some ⟨g,0,none⟩) l.length c) l.length (l.flatMap aj.cells)) (hn : l.length ≤ 1048576) :
    Calls Tryz.prog 174 #[.slice (some ⟨g,0,none⟩) l.length c,.func (.func 103) #[] #[]] w fun e w'=>um l B g c w e w':=by
  have mq:=(hown.lt g rfl).2;obtain ⟨W,hW⟩ : ∃ W,W = w.alloc (.cells #[.func (.func 103) #[] #[]] 129):=⟨_,rfl⟩;have hbW : Below w.heap.size w W:=(by rw [hW]; exact (Below.refl _ _).alloc (Nat.le_refl _) _)
  have hcW : jl W w.heap.size:=by
    unfold jl;rw [hW,cell_of_row _ _ _ _ _ _ (heap_alloc_new w _)];rfl
  have HS:=Lib.hid (Al l B g c W (own_below' hown hbW) hn);have c0 : W.cell? ⟨w.heap.size,0,none⟩ = some (.func (.func 103) #[] #[]):=hcW;have Hc:=Lib.hid hcW;have Hb:=Lib.hid hbW;have HW:=Lib.hid hW;clear hown hbW hcW hW;go_enter Tryz.func174,Tryz.ntmps174;go_wp2_with fail;rw [← HW.out];go_wp2_with fail;refine HS.out.mono ?_;rintro e w2 ⟨rfl,d,hp,hpw,hown2,jk⟩;have hbg : w.heap.size ≠ g:=(by omega);have hblt:=World.block_lt_of_cell? _ _ Hc.out;have hc2 : jl w2 w.heap.size:=(World.cell?_of_block (jk.block w.heap.size hblt (fun e=>hbg (by injection e)))).trans Hc.out;have hl:=hp.length_eq;have HC:=Lib.hid (Ak d B g c w.heap.size w2 hown2 (by omega) hc2 hbg);rw [hl] at HC;have nI:=Lib.hid (aA (aR Hb.out (some g)) jk);have TY:=Lib.hid (vR ES hp hpw);clear hp hpw hown2 jk hc2 hl c0;go_wp2_with fail;refine HC.out.mono ?_;rintro e w3 ⟨d2,hd2,rfl,hown3,lG⟩;have hd3 : d2 = aU bU l:=hd2.trans TY.out;subst hd3;have HR:=Lib.hid (show um l B g c w (.returned (.slice (some ⟨g,0,none⟩) (aU bU l).length c)) w3 from ⟨rfl,hown3,aA nI.out lG⟩);clear hd2 hown3 lG;go_wp2_with fail;go_ret;exact HR.out
end taint
namespace taint
open Go.ChangeShapes Go.WideShapes Go.ChangeAt Go.RowKit ty lab dedup need
set_option maxRecDepth 100000 in
set_option maxHeartbeats 8000000 in
theorem wu (l : List aj) (f : Nat) (v : Value) (w : World) (h : bf w f v (.sl 4 l.length (l.flatMap aj.row))) (hn : l.length ≤ 1048576) :
    Calls Tryz.prog 102 #[v,.func (.func 103) #[] #[],.func (.func 104) #[] #[]] w fun e w'=>dB w w' e 4 aj.row (dK dN bU l):=by
  have HC:=Lib.hid (fun w' (hb : Below w.heap.size w w')=>om l f v w' (h.below hb) hn);obtain ⟨A,c,rfl,hc1,hc2,f',rfl,hk⟩:=bD aj.au h;unfold maxLen at hc2;obtain ⟨hrd,hwf⟩:=iI hk;have eU:=Lib.hid hwf
  have Aq : Hid (∀ (g c : Nat) (l2 : List aj) (w3 : World),w3.ownsRow w.heap.size 86 4 (.slice (some ⟨g,0,none⟩) l2.length c) l2.length (l2.flatMap aj.cells) → (∀ x ∈ l2,x.Wf) → Below w.heap.size w w3 → ∀ b,dB w w3 (.returned (.tuple #[.slice (some ⟨g,0,none⟩) l2.length c,.bool b])) 4 aj.row (l2,b)):=fun g c l2 w3 ho hw hb b=>by
    obtain ⟨F,h1,h2,_⟩:=fB ho hw;exact ⟨_,1,F,rfl,h1,h2,hb⟩
  clear h hk hrd hwf;by_cases PL : 40 < l.length
  · have Hno:=Lib.hid (kD (P:=dN) (lt:=bU) (l:=l) (fun h=>by have:=h.1; omega));have Lj:=Lib.hid (Below.refl w.heap.size w);go_enter Tryz.func102,Tryz.ntmps102;go_wp2_with fail;refine (HC.out _ Lj.out).mono ?_;rintro e w9 ⟨g9,c9,rfl,gL,OG⟩;have HR:=Lib.hid (Aq.out g9 c9 l w9 (bR gL Lj.out.size) eU.out (ah Lj.out OG Lj.out.size) false);clear gL OG;go_wp2_with fail
    go_ret2
    rw [Hno.out];exact HR.out
  have Lj:=Lib.hid (Below.refl w.heap.size w);go_enter Tryz.func102,Tryz.ntmps102;go_wp2_with fail;refine (HC.out _ Lj.out).mono ?_;rintro e w1 ⟨g1,c1,rfl,hown1,hb1⟩;have HO:=Lib.hid (Ap l w.heap.size g1 c1 w1 hown1 hn);have Hb1:=Lib.hid hb1;have Hlo:=Lib.hid (hown1.lt g1 rfl);clear hown1 hb1;go_wp2_with fail;refine HO.out.mono ?_;rintro e w2 ⟨rfl,hown2,jk⟩;have hb2:=Hb1.out.grown jk Hb1.out.size (fun q hq=>by injection hq with hq; subst hq; exact Hlo.out.1);have dZ : ∀ x ∈ aU bU l,x.Wf:=fun x hx=>eU.out x (gu _ _ x hx);obtain ⟨F,ho,hnd,_⟩:=fB hown2 dZ;have HL:=Lib.hid (oh (aU bU l) _ _ w2 ho.lies);have Hb2:=Lib.hid hb2;have Y8:=Lib.hid (fun w3 (hb : Below w2.heap.size w2 w3)=>Aq.out g1 c1 (aU bU l) w3 (own_below' hown2 hb) dZ (ah hb2 hb hb2.size) true);clear hown2 jk hb2 ho hnd HO;by_cases hP : dN (aU bU l)
  · rw [aQ hP] at HL;have Hy:=Lib.hid (mJ (P:=dN) (lt:=bU) (l:=l) ⟨by omega,hP⟩);clear hP dZ;generalize aU bU l = d at *;go_wp2_with fail;refine HL.out.mono ?_;rintro e w3 ⟨rfl,hb3⟩;have HR:=Lib.hid (Y8.out w3 hb3);clear hb3;go_wp2_with fail
    go_ret2
    rw [Hy.out];exact HR.out
  rw [aP hP] at HL;have Hno:=Lib.hid (kD (P:=dN) (lt:=bU) (l:=l) (fun h=>hP h.2));clear hP Y8 dZ;generalize aU bU l = d at HL;go_wp2_with fail;refine HL.out.mono ?_;rintro e w3 ⟨rfl,hb3⟩;have Hb3:=Lib.hid (ah Hb2.out hb3 Hb2.out.size);clear hb3;go_wp2_with fail;refine (HC.out _ Hb3.out).mono ?_;rintro e w9 ⟨g9,c9,rfl,gL,OG⟩;have HR:=Lib.hid (Aq.out g9 c9 l w9 (bR gL Hb3.out.size) eU.out (ah Hb3.out OG Hb3.out.size) false);clear gL OG;go_wp2_with fail
  go_ret2
  rw [Hno.out];exact HR.out
set_option maxRecDepth 100000 in
theorem uT (l : List aj) (f : Nat) (v : Value) (w : World) (h : bf w f v (.sl 4 l.length (l.flatMap aj.row))) (hn : l.length ≤ 1048576) :
    Calls Tryz.prog 36 #[v] w fun e w'=>dB w w' e 4 aj.row (dK dN bU l):=by
  have HS:=Lib.hid (wu l f v w h hn);obtain ⟨r,hr⟩ : ∃ r,r = dK dN bU l:=⟨_,rfl⟩;rw [← hr] at HS ⊢;obtain ⟨r1,r2⟩:=r;clear h hn hr;go_enter Tryz.func36,Tryz.ntmps36;go_wp2_with fail;refine HS.out.mono ?_;rintro e w1 ⟨v1,f1,F1,rfl,ho,hnd,hb⟩;have HR:=Lib.hid (show dB w w1 (.returned (.tuple #[v1,.bool r2])) 4 aj.row (r1,r2) from ⟨v1,f1,F1,rfl,ho,hnd,hb⟩);clear ho hnd hb;go_wp2_with fail
  go_ret2
  exact HR.out
end taint
end Go.Proofs.YtcfbkfmkjggcdaaGreatDoor
