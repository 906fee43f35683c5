/- Merged: DrawTaints DrawHw DrawAnyTaints DrawNl DrawTolerances. -/
import Derived.Test.YtcfbkfmkjggcdaaGreatDoorGA8
import Derived.Test.YtcfbkfmkjggcdaaGreatDoorSrtTaintS
import Derived.Test.YtcfbkfmkjggcdaaGreatDoorGA9
import Derived.Test.YtcfbkfmkjggcdaaGreatDoorGA6
import Derived.Test.YtcfbkfmkjggcdaaGreatDoorGA0
import Derived.Test.YtcfbkfmkjggcdaaGreatDoorGA7
import Derived.Test.YtcfbkfmkjggcdaaGreatDoorGA10
import Derived.Deep.WholeRow
import Derived.Test.YtcfbkfmkjggcdaaGreatDoorGA12
import Derived.Test.YtcfbkfmkjggcdaaGreatDoorSortNS
import Derived.Test.YtcfbkfmkjggcdaaGreatDoorGA13
import Derived.Test.YtcfbkfmkjggcdaaGreatDoorSrtToleranceS
import Derived.Test.YtcfbkfmkjggcdaaGreatDoorGA14
set_option linter.unusedVariables false
namespace Go.Proofs.YtcfbkfmkjggcdaaGreatDoor
namespace draw
open Go.ChangeShapes Go.WideShapes Go.ChangeAt Go.RowKit ty lab dedup taint need
theorem oH {l : List av} (h : ∀ x ∈ l,iC 5 x) : ∀ x ∈ l,x.Wf:=fun x hx=>(h x hx).wf (by decide)
theorem rF : ∀ {l : List av},(∀ x ∈ l,iC 5 x) → bH av.wt l ≤ 10 * l.length
  | [],_=>by simp [bH]
  | x :: l,h=>by
    have h1:=rF (l:=l) fun y hy=>h y (List.mem_cons_of_mem _ hy);have h2:=h x List.mem_cons_self;have h3:=h2.key;have h4:=h2.value;have e : bH av.wt (x :: l) = x.wt + bH av.wt l:=(by simp [bH]);have h5 : x.wt ≤ 10:=(by unfold av.wt; omega);rw [e,List.length_cons];omega
theorem l9 {l : List av} {x : av} (h : ∀ x ∈ l,iC 5 x) (hx : iC 5 x) : ∀ y ∈ l ++ [x],iC 5 y:=fun y hy=>by
  rcases List.mem_append.1 hy with hy | hy
  · exact h y hy
  · rw [List.mem_singleton] at hy; subst hy; exact hx
set_option maxRecDepth 1000000 in
set_option maxHeartbeats 16000000 in
theorem zM (c : Nat) (A : Option Addr) (len cap : Nat) (z : Nat → Int) (w : World) (hc : jJ w c A len cap z) :
    Calls Tryz.prog 153 #[.pointer (some ⟨c,0,none⟩)] w (MB 3 av.row (fun l=>l.length ≤ 4 ∧ ∀ x ∈ l,iC 5 x) c A len cap z w):=by
  obtain ⟨i0,hi,hz0,hz1,hz2⟩:=info_parts TryzinfITaint;have aL:=hc.lt;have hown0 : (w.alloc (.cells #[] 72)).ownsRow w.heap.size 72 3 (.slice (some ⟨w.heap.size,0,none⟩) 0 0) 0 ([].flatMap av.cells):=World.ownsRow_lit w #[] 0 (Nat.le_refl _) (by simp [maxLen]) rfl;obtain ⟨F0,ho0,hn0,_⟩:=jf (l:=[]) hown0 (by intro x hx; cases hx);have ML:=Lib.hid ho0;have Tg:=Lib.hid hn0;have Ti:=Lib.hid (dD hc (.cells #[] 72));have Tj:=Lib.hid (bX w (.cells #[] 72) (some c));clear hc hown0 ho0 hn0;go_enter Tryz.func153,Tryz.ntmps153;go_wp2_with fail
  go_loopw [3,4] (fun vo i wr=>∃ (j : Nat) (l : List av) (f : Nat) (F : List Nat),j ≤ 3 ∧ i = .int .i64 j ∧ l.length ≤ 4 ∧ Hid (∀ x ∈ l,iC 5 x) ∧ Own wr w.heap.size (f + 1) vo (.sl 3 l.length (l.flatMap av.row)) F ∧ Hid F.Nodup ∧ jJ wr c A len cap z ∧ w.grownBy wr (some c)) (fun _ i _=>3 - (intOf i).toNat)
  case atStart=>exact ⟨0,[],1,F0,by omega,rfl,by simp,(by intro x hx; cases hx),ML.out,Tg.out,Ti.out,Tj.out⟩
  case round=>
    clear ML Tg Ti Tj;obtain ⟨j,l,f,F,hj,rfl,PK,jX,ho,hnd,hcur,hgr⟩:=hrel;have HB:=Lib.hid (bM c A len cap z 3 wr hcur (by decide) (by decide));obtain ⟨Ao,co,rfl,VU,Ko,_⟩:=bD av.au ho.lies;unfold maxLen at Ko;have Ho:=Lib.hid ho;have nI:=Lib.hid hgr;clear ho hgr hcur;go_wp2_with fail;refine HB.out.mono ?_;rintro e w1 ⟨x,hx,rfl,hc1,hg1⟩;have ho1:=q9 Ho.out aL hg1;have Tk:=Lib.hid ho1;have zo:=Lib.hid (aA nI.out hg1);have GQ:=Lib.hid hc1;have qx:=hc1.lt;obtain ⟨A',c',hA',_,_,f',hf',hels⟩:=bD av.au ho1.lies;injection hA' with a1 a2 a3;subst a1 a3;obtain ⟨hrd,_⟩:=mI hels;have gZ:=hrd.below ((Below.refl w1.heap.size w1).alloc (Nat.le_refl _) (.cells #[] 72));have nK:=Lib.hid gZ;have kX:=Lib.hid (show (w1.alloc (.cells #[] 72)).ownsRow w1.heap.size 72 3 (.slice (some ⟨w1.heap.size,0,none⟩) 0 0) 0 [] from World.ownsRow_lit w1 #[] 0 (Nat.le_refl _) (by simp [maxLen]) rfl);clear hg1 hc1 ho1 hels hrd gZ hf' Ho nI HB;by_cases hlt : (j : Int) < x
    · have hj3 : j + 1 ≤ 3:=(by omega);go_wp2_with (first | (at_builtin; refine aB rfl (.tmp 15) (.tmp 16) 30 rfl w1.heap.size 72 i0 _ 3 40 Tryz.underlying30 hi hz0 hz1 hz2 rfl (by decide) _ 0 [] rfl kX.out Ao l.length co (l.flatMap av.cells) rfl nK.out (flt.eP av.cells_one l) (by unfold maxLen; omega) (by omega) (by simp) ?_) | fail);intro v3 w3 hown3 hg3 MN
      try simp only [Nat.zero_add,List.nil_append] at hown3
      obtain ⟨A3,c3,rfl⟩:=aW hown3;have hb3:=Below.grown ((Below.refl w1.heap.size w1).alloc (Nat.le_refl _) (.cells #[] 72)) hg3 (by simp) (fun b hb=>by simp [Value.ownBlock] at hb; omega);have Hb3:=Lib.hid hb3;have ku:=Lib.hid hown3;have HK:=Lib.hid (BM c A len cap z w3 (GQ.out.below (hb3.mono (show c + 1 ≤ w1.heap.size from qx)) (Nat.lt_succ_self c)));clear hown3 hg3 MN hb3 kX nK;go_wp2_with fail;refine HK.out.mono ?_;rintro e w5 ⟨xl,hxt,he,mH,hg5⟩;obtain rfl : e = .returned (.agg #[.string xl.key,.string xl.value,.int .i64 xl.effect]):=he;have Wv:=Lib.hid hxt;have kT:=Lib.hid (za ku.out qx hg5);have MO:=Lib.hid (aA (aR Hb3.out (some c)) hg5);have Qh:=Lib.hid mH;have hs5 : w1.heap.size ≤ w5.heap.size:=MO.out.size;clear mH hg5 ku Hb3 HK hxt;go_wp2_with (first | (at_builtin; refine aB rfl (.tmp 17) (.tmp 20) 30 rfl w1.heap.size 72 i0 _ 3 40 Tryz.underlying30 hi hz0 hz1 hz2 rfl (by decide) _ l.length _ rfl (own_below' kT.out ((Below.refl _ _).alloc (Nat.le_refl _) _)) (some ⟨w5.heap.size,0,none⟩) 1 1 [.string xl.key,.string xl.value,.int .i64 xl.effect] rfl (sI w5 72 [.string xl.key,.string xl.value,.int .i64 xl.effect] rfl) (av.cells_one xl) (by unfold maxLen; omega) (by omega) (by simp; omega) ?_) | fail);intro v7 w7 gT gM ig;have rA : w7.ownsRow w1.heap.size 72 3 v7 (l ++ [xl]).length ((l ++ [xl]).flatMap av.cells):=(by rw [List.flatMap_append,List.length_append,List.flatMap_cons,List.flatMap_nil,List.append_nil]; exact gT);have nP : Below w1.heap.size w5 w7:=Below.grown ((Below.refl w1.heap.size w5).alloc hs5 _) gM (by simp; omega) (fun b hb=>(kT.out.lt b hb).1);have MP:=Lib.hid (draw.aK MO.out (nP.mono (Nat.le_refl _)));have Tm:=Lib.hid (Qh.out.below (nP.mono (show c + 1 ≤ w1.heap.size from qx)) (Nat.lt_succ_self c));have htl : ∀ y ∈ l ++ [xl],iC 5 y:=l9 jX.out Wv.out;obtain ⟨A7,c7,rfl⟩:=aW rA;obtain ⟨F7,Jo,VW,_⟩:=jf rA (oH htl);have HS:=Lib.hid (rC (l ++ [xl]) _ _ w7 Jo.lies (Nat.le_trans (rF htl) (by simp; omega)) (by simp; omega))
      have nQ : Hid ((dK bL bA (l ++ [xl])).2 = true → (dK bL bA (l ++ [xl])).1.length ≤ 4 ∧ ∀ y ∈ (dK bL bA (l ++ [xl])).1,iC 5 y):=fun h=>by
        rcases jY (lt:=bA) bL (l ++ [xl]) with e | ⟨e,hP⟩
        · rw [e] at h; cases h
        · rw [e];exact ⟨hP.1,fun y hy=>htl y (gu _ _ y hy)⟩
      have hs7 : w1.heap.size ≤ w7.heap.size:=MP.out.size;rw [List.length_append,List.length_singleton] at HS;clear gT rA gM ig nP Jo VW htl kT MO Qh;generalize dK bL bA (l ++ [xl]) = r at HS nQ;obtain ⟨r1,r2⟩:=r;go_wp2_with fail;refine HS.out.mono ?_;rintro e w8 ⟨v8,f8,F8,rfl,MQ,Tn,G8⟩;have X5:=Lib.hid (MQ.lower (show w.heap.size ≤ w7.heap.size from Nat.le_trans zo.out.size hs7));have X6:=Lib.hid Tn;have Tp:=Lib.hid (draw.aK MP.out (G8.mono hs7));have Tq:=Lib.hid (Tm.out.below (G8.mono (show c + 1 ≤ w7.heap.size by omega)) (Nat.lt_succ_self c));have MR:=Lib.hid (q9 Tk.out aL Tp.out);have EM:=Lib.hid (aA zo.out Tp.out);obtain ⟨A8,c8,rfl,_,_,_⟩:=bD av.au MQ.lies;clear MQ Tn G8 HS MP Tm;cases r2 with
      | true=>
        have hgd:=nQ.out rfl;have X7:=Lib.hid hgd.2;have Tt : r1.length ≤ 4:=hgd.1;clear hgd nQ;go_wp2_with fail
        go_roundw
        case rel=>exact ⟨j + 1,r1,f8,F8,hj3,by go_num,Tt,X7.out,X5.out,X6.out,Tq.out,EM.out⟩
        case measure=>simp [intOf]; omega
      | false=>
        clear nQ;go_wp2_with fail
        go_roundw
        case rel=>exact ⟨j + 1,l,f,F,hj3,by go_num,PK,jX.out,MR.out,hnd.out,Tq.out,EM.out⟩
        case measure=>simp [intOf]; omega
    · go_wp2_with fail;go_ret;exact ⟨l,_,f,F,⟨PK,jX.out⟩,rfl,Tk.out,hnd.out,GQ.out,zo.out⟩
end draw
namespace draw
open Go.ChangeShapes Go.WideShapes Go.ChangeAt Go.RowKit ty lab taint
def Yr (x : Int) : Prop:=0 ≤ x ∧ x ≤ 1024000
theorem zN (c : Nat) (A : Option Addr) (len cap : Nat) (z : Nat → Int) (w : World) (hc : jJ w c A len cap z) :
    Calls Tryz.prog 141 #[.pointer (some ⟨c,0,none⟩)] w (Got Yr c A len cap z w):=by
  have HP:=Lib.hid (lM c A len cap z w.heap.size 9 9 [0,100,500,1000,1500,2000,4000,1024000,250] _ (dD hc _) (by decide) (by decide) rfl hc.lt (heap_alloc_new w _));have Hg:=Lib.hid (fun o : Obj=>bX w o (some c));clear hc;go_enter Tryz.func141,Tryz.ntmps141;go_wp2_with fail;refine HP.out.mono ?_;rintro e w1 ⟨x,hx,rfl,hc1,hg1⟩;have HR:=Lib.hid (show Got Yr c A len cap z w (.returned (.int .i64 x)) w1 from ⟨x,by unfold Yr; simp at hx; omega,rfl,hc1,aA (Hg.out _) hg1⟩);clear hc1 hg1 hx;go_wp2_with fail;go_ret;exact HR.out
structure JH (name : ByteArray) (x : Host) : Prop where
  name : x.name = name
  labels : x.labels.length ≤ 6 ∧ Tiny 5 x.labels
  cpu : 1000 ≤ x.cpu ∧ x.cpu ≤ 5000
  mem : 1000 ≤ x.mem ∧ x.mem ≤ 5000
  slots : 1 ≤ x.slots ∧ x.slots ≤ 4
  bP : x.bP.length ≤ 4 ∧ ∀ y ∈ x.bP,iC 5 y
theorem xu {n : Int} (h1 : -1 ≤ n) (h2 : n ≤ 1024000) : (Lit.int .i64 n).wf = true:=by
  have e : IntKind.i64.min = -9223372036854775808:=rfl;simp [Lit.wf];omega
set_option maxRecDepth 100000 in
set_option maxHeartbeats 16000000 in
theorem FN (c : Nat) (A : Option Addr) (len cap : Nat) (z : Nat → Int) (name : ByteArray) (hn : name.size ≤ 1000) (w : World) (hc : jJ w c A len cap z) :
    Calls Tryz.prog 89 #[.pointer (some ⟨c,0,none⟩),.string name] w (lZ Host.row (JH name) c A len cap z w):=by
  have aL:=hc.lt;obtain ⟨W,hW⟩ : ∃ W,W = w.alloc (.cells #[.string ⟨#[]⟩,.slice none 0 0,.int .i64 0,.int .i64 0,.int .i64 0,.slice none 0 0] 32):=⟨_,rfl⟩;have S0:=Lib.hid (show vF w c A len cap z 32 [.string ⟨#[]⟩,.slice none 0 0,.int .i64 0,.int .i64 0,.int .i64 0,.slice none 0 0] W by rw [hW]; exact vF.new hc);have hWs : W.heap.size = w.heap.size + 1:=(by rw [hW]; simp);have HW:=Lib.hid hW;have HL:=Lib.hid (zn c A len cap z W S0.out.cur);clear hc hW;go_enter Tryz.func89,Tryz.ntmps89;go_wp2_with fail;rw [← HW.out];refine HL.out.mono ?_;clear HL;rintro e w1 ⟨l,v,f1,F1,hl,rfl,ho,hnd,hc1,hg1⟩;obtain ⟨A1,d1,rfl,_,_,_⟩:=ho.lies.sl;have O1:=Lib.hid (Og.of ho hnd);have S1:=Lib.hid (S0.out.turn aL hc1 hg1);have hs1 : W.heap.size ≤ w1.heap.size:=hg1.size;have Hl:=Lib.hid hl;have HB:=Lib.hid (bM c A len cap z 5 w1 hc1 (by decide) (by decide));clear hc1 hg1 S0 ho hnd hl;go_wp2_with fail;refine HB.out.mono ?_;clear HB;rintro e w2 ⟨x1,hx1,rfl,hc2,hg2⟩;have O2:=Lib.hid (Og.turn O1.out (by omega) hg2);have S2:=Lib.hid (S1.out.turn aL hc2 hg2);have hs2 : w1.heap.size ≤ w2.heap.size:=hg2.size;have a1 : IntKind.i64.wrap (1 + x1) = 1 + x1:=IntWalk.i64_in _ (by omega);have b1 : IntKind.i64.wrap (1000 * (1 + x1)) = 1000 * (1 + x1):=IntWalk.i64_in _ (by omega);have HB:=Lib.hid (bM c A len cap z 5 w2 hc2 (by decide) (by decide));clear hc2 hg2 S1 O1;go_wp2_with fail;refine HB.out.mono ?_;clear HB;rintro e w3 ⟨x2,hx2,rfl,hc3,hg3⟩;have O3:=Lib.hid (Og.turn O2.out (by omega) hg3);have S3:=Lib.hid (S2.out.turn aL hc3 hg3);have hs3 : w2.heap.size ≤ w3.heap.size:=hg3.size;have a2 : IntKind.i64.wrap (1 + x2) = 1 + x2:=IntWalk.i64_in _ (by omega);have b2 : IntKind.i64.wrap (1000 * (1 + x2)) = 1000 * (1 + x2):=IntWalk.i64_in _ (by omega);have HB:=Lib.hid (bM c A len cap z 4 w3 hc3 (by decide) (by decide));clear hc3 hg3 S2 O2;go_wp2_with fail;refine HB.out.mono ?_;clear HB;rintro e w4 ⟨x3,hx3,rfl,hc4,hg4⟩;have O4:=Lib.hid (Og.turn O3.out (by omega) hg4);have S4:=Lib.hid (S3.out.turn aL hc4 hg4);have hs4 : w3.heap.size ≤ w4.heap.size:=hg4.size;have a3 : IntKind.i64.wrap (1 + x3) = 1 + x3:=IntWalk.i64_in _ (by omega);obtain ⟨m1,hm1⟩ : ∃ m,m = 1000 * (1 + x1):=⟨_,rfl⟩;obtain ⟨m2,hm2⟩ : ∃ m,m = 1000 * (1 + x2):=⟨_,rfl⟩;obtain ⟨m3,Yt⟩ : ∃ m,m = 1 + x3:=⟨_,rfl⟩;obtain ⟨X,hX⟩ : ∃ X,X = w4.alloc (.cells #[.string name,.slice A1 l.length d1,.int .i64 m1,.int .i64 m2,.int .i64 m3,.slice none 0 0] 32):=⟨_,rfl⟩;have hbX : Below w4.heap.size w4 X:=(by rw [hX]; exact (Below.refl _ _).alloc (Nat.le_refl _) _);have S5:=Lib.hid (show tC w c A len cap z 32 [.string ⟨#[]⟩,.slice none 0 0,.int .i64 0,.int .i64 0,.int .i64 0,.slice none 0 0] w4.heap.size [.string name,.slice A1 l.length d1,.int .i64 m1,.int .i64 m2,.int .i64 m3,.slice none 0 0] X by rw [hX]; exact S4.out.box aL);have O5:=Lib.hid (O4.out.call hbX);have hbw : w.heap.size < w4.heap.size:=(by omega);have hE1 : w1.heap.size ≤ w4.heap.size:=(by omega);obtain ⟨b,hb⟩ : ∃ b,b = w4.heap.size:=⟨_,rfl⟩;have Hb:=Lib.hid hb;rw [← hb] at S5 hbw hE1;have HM1:=Lib.hid hm1;have HM2:=Lib.hid hm2;have HM3:=Lib.hid Yt;have HX:=Lib.hid hX;have HO:=Lib.hid (iQ c A len cap z 2 X S5.out.cur (by decide) (by decide));have QB : 1000 ≤ m1 ∧ m1 ≤ 5000:=(by omega);have QC : 1000 ≤ m2 ∧ m2 ≤ 5000:=(by omega);have Il : 1 ≤ m3 ∧ m3 ≤ 4:=(by omega);clear hc4 hg4 S3 O3 hX hbX S4 O4 hb hm1 hm2 Yt;go_wp2_with fail;rw [← HM1.out,← HM2.out,← HM3.out,← HX.out,← Hb.out];refine HO.out.mono ?_;clear HO;rintro e w6 ⟨q,rfl,hc6,kg⟩;have O6:=Lib.hid (Og.turn O5.out (by omega) kg);have S6:=Lib.hid (S5.out.turn aL hbw hc6 kg);have Wn:=Lib.hid (show X.heap.size = b + 1 by rw [HX.out,Hb.out]; simp);have hs6 : X.heap.size ≤ w6.heap.size:=kg.size;clear kg O5 S5 HX Hb HM1 HM2 HM3;have eU : Hid (name.size ≤ maxLen ∧ (Lit.int .i64 m1).wf = true ∧ (Lit.int .i64 m2).wf = true ∧ (Lit.int .i64 m3).wf = true):=⟨by unfold maxLen; omega,xu (by omega) (by omega),xu (by omega) (by omega),xu (by omega) (by omega)⟩;cases q with
  | false=>
    have dJ:=S6.out.mine;have bJ:=S6.out.zero;unfold aC at bJ dJ
    obtain ⟨F,hw,hnd,_⟩:=Host.owned (x:=(⟨name,l,m1,m2,m3,[]⟩ : Host)) (f:=f1) (w:=w6.setRow w.heap.size #[.string name,.slice A1 l.length d1,.int .i64 m1,.int .i64 m2,.int .i64 m3,.slice none 0 0]) (B:=w.heap.size) (F5:=[])
      (show Host.Wf _ from eU.out) (Og.fin O6.out (by omega) (by omega) (Nat.le_refl _)) (nN _ _ _ _) O6.out.gY List.nodup_nil (fun _ _ h=>by cases h)
    have HR:=Lib.hid (show lZ Host.row (JH name) c A len cap z w (.returned (.agg #[.string name,.slice A1 l.length d1,.int .i64 m1,.int .i64 m2,.int .i64 m3,.slice none 0 0])) (w6.setRow w.heap.size #[.string name,.slice A1 l.length d1,.int .i64 m1,.int .i64 m2,.int .i64 m3,.slice none 0 0]) from
      ⟨⟨name,l,m1,m2,m3,[]⟩,_,f1,F,⟨rfl,Hl.out,QB,QC,Il,by simp,by simp⟩,rfl,hw,hnd,S6.out.cur.below (ay (Below.refl _ _) (Nat.le_refl _) _) aL,draw.aK S6.out.grown (ay (Below.refl _ _) (Nat.le_refl _) _)⟩)
    clear hc6 hw hnd O6 QB QC Il hx1 hx2 hx3;go_wp2_with (first | (refine wpList_load_row rfl 32 _ rfl b rfl 32 #[.string name,.slice A1 l.length d1,.int .i64 m1,.int .i64 m2,.int .i64 m3,.slice none 0 0] (0,0) _ dJ Tryz.underlying32 rfl aV ?_) | (refine wpList_store_row rfl 32 _ _ rfl w.heap.size #[.string name,.slice A1 l.length d1,.int .i64 m1,.int .i64 m2,.int .i64 m3,.slice none 0 0] rfl rfl 32 _ bJ aV rfl (by simp [Value.oneCell']) ?_) | fail);refine bodyPost_ret (v:=.agg #[.string name,.slice A1 l.length d1,.int .i64 m1,.int .i64 m2,.int .i64 m3,.slice none 0 0]) ?_ rfl HR.out;exact results_cell_row rfl _ _ w.heap.size _ _ (0,0) _ rfl (aI bJ) Tryz.underlying32 rfl aV
  | true=>
    have HT:=Lib.hid (zM c A len cap z w6 hc6);clear hc6;go_wp2_with fail;refine HT.out.mono ?_;clear HT;rintro e w7 ⟨m,u,g,G,hm,rfl,ho,hnd,DV,gM⟩;obtain ⟨A5,d5,rfl,_,_,_⟩:=ho.lies.sl;have P7:=Lib.hid (Og.of ho hnd);have O7:=Lib.hid (Og.turn O6.out (by omega) gM);have S7:=Lib.hid (S6.out.turn aL hbw DV gM);have Hm:=Lib.hid hm;have p5:=S7.out.mine.cell 5 _ rfl;have q5:=aC.frozen S7.out.mine 5;have s8:=S7.out.put aL hbw 5 (.slice A5 m.length d5);have o8:=Og.high (j:=5) (u:=.slice A5 m.length d5) O7.out hE1;have n8:=Og.put (j:=5) (u:=.slice A5 m.length d5) P7.out (show b < _ by have:=Wn.out; omega);obtain ⟨zz,hzz⟩ : ∃ y,w7.setCell ⟨b,5,none⟩ (.slice A5 m.length d5) = y:=⟨_,rfl⟩;rw [hzz] at s8 o8 n8;have s8 : tC w c A len cap z 32 [.string ⟨#[]⟩,.slice none 0 0,.int .i64 0,.int .i64 0,.int .i64 0,.slice none 0 0] b [.string name,.slice A1 l.length d1,.int .i64 m1,.int .i64 m2,.int .i64 m3,.slice A5 m.length d5] zz:=s8;have dJ:=s8.mine;have bJ:=s8.zero;unfold aC at bJ dJ;have hxs:=Wn.out
    obtain ⟨F,hw,zm,_⟩:=Host.owned (x:=(⟨name,l,m1,m2,m3,m⟩ : Host)) (f:=f1 + g) (w:=zz.setRow w.heap.size #[.string name,.slice A1 l.length d1,.int .i64 m1,.int .i64 m2,.int .i64 m3,.slice A5 m.length d5]) (B:=w.heap.size)
      (show Host.Wf _ from eU.out) (Og.fin o8 (by omega) (by omega) (by omega)) (Og.fin n8 (by omega) (by omega) (by omega)) o8.gY n8.gY (o8.apart n8 (by omega))
    have HR:=Lib.hid (show lZ Host.row (JH name) c A len cap z w (.returned (.agg #[.string name,.slice A1 l.length d1,.int .i64 m1,.int .i64 m2,.int .i64 m3,.slice A5 m.length d5])) (zz.setRow w.heap.size #[.string name,.slice A1 l.length d1,.int .i64 m1,.int .i64 m2,.int .i64 m3,.slice A5 m.length d5]) from
      ⟨⟨name,l,m1,m2,m3,m⟩,_,f1 + g,F,⟨rfl,Hl.out,QB,QC,Il,Hm.out⟩,rfl,hw,zm,s8.cur.below (ay (Below.refl _ _) (Nat.le_refl _) _) aL,draw.aK s8.grown (ay (Below.refl _ _) (Nat.le_refl _) _)⟩)
    clear DV gM ho hnd hm hw zm s8 o8 n8 O6 O7 P7 S6 S7 QB QC Il hx1 hx2 hx3 hxs;go_wp2_with (first | (refine wpList_load_row rfl 32 _ rfl b rfl 32 #[.string name,.slice A1 l.length d1,.int .i64 m1,.int .i64 m2,.int .i64 m3,.slice A5 m.length d5] (0,0) _ dJ Tryz.underlying32 rfl aV ?_) | (refine wpList_store_row rfl 32 _ _ rfl w.heap.size #[.string name,.slice A1 l.length d1,.int .i64 m1,.int .i64 m2,.int .i64 m3,.slice A5 m.length d5] rfl rfl 32 _ bJ aV rfl (by simp [Value.oneCell']) ?_) | fail);refine bodyPost_ret (v:=.agg #[.string name,.slice A1 l.length d1,.int .i64 m1,.int .i64 m2,.int .i64 m3,.slice A5 m.length d5]) ?_ rfl HR.out;exact results_cell_row rfl _ _ w.heap.size _ _ (0,0) _ rfl (aI bJ) Tryz.underlying32 rfl aV
end draw
namespace draw
open Go.ChangeShapes Go.WideShapes Go.ChangeAt Go.RowKit ty lab dedup taint need
theorem NH (w : World) (f : Nat) (x : av) (j : Nat) (d : C) (u : Value) (h : x.row[j]? = some d) (hl : bf w f u d) : x.cells[j]? = some u:=by
  match j,h with
  | 0,h=>
    simp [av.row] at h;subst h;have e:=hl.str.1;subst e;rfl
  | 1,h=>
    simp [av.row] at h;subst h;have e:=hl.str.1;subst e;rfl
  | 2,h=>
    simp [av.row] at h;subst h;have e:=hl.int.1;subst e;rfl
  | j + 3,h=>simp [av.row] at h
def p9 : Value → Nat
  | .slice _ n _=>n
  | _=>0
set_option maxRecDepth 1000000 in
set_option maxHeartbeats 16000000 in
theorem Bf (c : Nat) (A : Option Addr) (len cap : Nat) (z : Nat → Int) (w : World) (hc : jJ w c A len cap z) :
    Calls Tryz.prog 90 #[.pointer (some ⟨c,0,none⟩)] w (MB 3 av.row (fun l=>l.length ≤ 41 ∧ ∀ x ∈ l,iC 5 x) c A len cap z w):=by
  obtain ⟨i0,hi,hz0,hz1,hz2⟩:=info_parts TryzinfITaint;have aL:=hc.lt;have HL:=Lib.hid (zM c A len cap z w hc);clear hc;go_enter Tryz.func90,Tryz.ntmps90;go_wp2_with fail;refine HL.out.mono ?_;rintro e w1 ⟨l,v,f,F,⟨hl4,jX⟩,rfl,ho,hnd,hc1,hg1⟩;obtain ⟨e0,hst⟩:=AV.ME av.au av.aD NH 72 ho hc1 hg1;have S1:=Lib.hid hst;have HT:=Lib.hid jX;have Yu:=Lib.hid hl4;clear HL ho hnd hc1 hg1 hst jX hl4;go_wp2_with fail
  go_loopw [3,4] (fun vo i wr=>∃ (j : Nat) (m : List av) (q : TypeId),j ≤ 4 ∧ i = .int .i64 j ∧ m.length ≤ 4 + j ∧ Hid (∀ x ∈ m,iC 5 x) ∧ AV 3 av.cells w c A len cap z q vo m wr) (fun _ i _=>4 - (intOf i).toNat)
  case atStart=>exact ⟨0,l,e0,by omega,rfl,by have:=Yu.out; omega,HT.out,S1.out⟩
  case round=>
    clear S1 HT Yu;obtain ⟨j,m,q,hj,rfl,hml,zG,hst⟩:=hrel;obtain ⟨Am,cm,rfl⟩:=aW hst.row;have S3:=Lib.hid hst;have HB:=Lib.hid (bM c A len cap z 4 wr hst.cur (by decide) (by decide));clear hst;go_wp2_with fail;refine HB.out.mono ?_;rintro e w4 ⟨x,hx,rfl,hc4,hg4⟩;have S4:=Lib.hid (S3.out.turn aL hc4 hg4);clear hg4 HB S3;by_cases hlt : (j : Int) < x
    · have hj5 : j ≤ 3:=(by omega);have HK:=Lib.hid (DF c A len cap z w4 hc4);clear hc4;go_wp2_with fail;refine HK.out.mono ?_;rintro e w5 ⟨xl,hxt,he,mH,hg5⟩;obtain rfl : e = .returned (.agg #[.string xl.key,.string xl.value,.int .i64 xl.effect]):=he;have S5:=Lib.hid (S4.out.turn aL mH hg5);have hs5:=S5.out.grown.size;have Wv:=Lib.hid hxt;clear HK S4 mH hg5 hxt;go_wp2_with (first | (at_builtin; refine bW rfl (.tmp 13) (.tmp 16) 30 rfl w.heap.size 72 q i0 _ 3 40 Tryz.underlying30 hi hz0 hz1 hz2 rfl (by decide) _ m.length _ rfl (S5.out.alloc aL _).row w5.heap.size 1 1 [.string xl.key,.string xl.value,.int .i64 xl.effect] rfl (sI w5 72 [.string xl.key,.string xl.value,.int .i64 xl.effect] rfl) (by decide) (av.cells_one xl) (by unfold maxLen; omega) (by omega) (by simp; omega) ?_) | fail);intro v7 w7 e7 gT gM ig;have S7:=Lib.hid (S5.out.more (x:=xl) aL gT gM);have Yk:=Lib.hid (l9 zG.out Wv.out);have PS : (m ++ [xl]).length ≤ 4 + (j + 1):=(by simp; omega);clear gT gM ig S5;go_wp2_with fail
      go_roundw
      case rel=>exact ⟨j + 1,m ++ [xl],e7,by omega,by go_num,PS,Yk.out,S7.out⟩
      case measure=>simp [intOf]; omega
    · have hm8 : m.length ≤ 8:=(by omega);have HO:=Lib.hid (iQ c A len cap z 20 w4 hc4 (by decide) (by decide));clear hc4;go_wp2_with fail;refine HO.out.mono ?_;rintro e w5 ⟨b,rfl,mH,hg5⟩;have S5:=Lib.hid (S4.out.turn aL mH hg5);clear HO S4 mH hg5;cases b with
      | false=>
        have HR:=Lib.hid (S5.out.got (row:=av.row) (Wf:=av.Wf) (P:=(fun l=>l.length ≤ 41 ∧ ∀ x ∈ l,iC 5 x)) av.au (fun x h=>av.owned h) ⟨by omega,zG.out⟩ (oH zG.out));go_wp2_with fail;go_ret;exact HR.out
      | true=>
        go_wp2_with fail
        go_loopw [3] (fun vo wr=>∃ (m2 : List av) (q2 : TypeId),m2.length ≤ 41 ∧ p9 vo = m2.length ∧ Hid (∀ x ∈ m2,iC 5 x) ∧ AV 3 av.cells w c A len cap z q2 vo m2 wr) (fun vo _=>41 - p9 vo)
        case atStart=>exact ⟨m,q,by omega,rfl,zG.out,S5.out⟩
        case round=>
          clear S5 zG hm8 hml;obtain ⟨m2,q,hm2,hlo,zG,hst⟩:=hrel;obtain ⟨Am2,cm2,rfl⟩:=aW hst.row;have S6:=Lib.hid hst;have HB:=Lib.hid (bM c A len cap z 2 wr hst.cur (by decide) (by decide));clear hst hlo;go_wp2_with fail;refine HB.out.mono ?_;rintro e w7 ⟨x2,hx2,rfl,DV,gM⟩;have S7:=Lib.hid (S6.out.turn aL DV gM);have hs7:=S7.out.grown.size;have hwx : IntKind.i64.wrap (40 + x2) = 40 + x2:=IntWalk.i64_in _ (by omega);clear HB S6 DV gM;by_cases hlt2 : (m2.length : Int) < 40 + x2
          · go_wp2_with (first | (at_builtin; refine bW rfl (.tmp 26) (.tmp 28) 30 rfl w.heap.size 72 q i0 _ 3 40 Tryz.underlying30 hi hz0 hz1 hz2 rfl (by decide) _ m2.length _ rfl (S7.out.alloc aL _).row w7.heap.size 1 1 [.string ⟨#[97]⟩,.string ⟨#[]⟩,.int .i64 1] rfl (sI w7 72 [.string ⟨#[97]⟩,.string ⟨#[]⟩,.int .i64 1] rfl) (by decide) (by intro u hu; simp at hu; rcases hu with rfl | rfl | rfl <;> rfl) (by unfold maxLen; omega) (by omega) (by simp; omega) ?_) | fail);intro v9 w9 e9 gL Cg zF;have S9:=Lib.hid (S7.out.more (x:=(⟨⟨#[97]⟩,⟨#[]⟩,1⟩ : av)) aL gL Cg);have HT9:=Lib.hid (l9 (x:=(⟨⟨#[97]⟩,⟨#[]⟩,1⟩ : av)) zG.out ⟨by decide,by decide,by decide,by decide⟩);have hm9 : (m2 ++ [(⟨⟨#[97]⟩,⟨#[]⟩,1⟩ : av)]).length ≤ 41:=(by simp; omega);obtain ⟨A9,c9,rfl⟩:=aW gL;clear gL Cg zF S7;go_wp2_with fail
            go_roundw
            case rel=>exact ⟨m2 ++ [(⟨⟨#[97]⟩,⟨#[]⟩,1⟩ : av)],e9,hm9,by simp [p9],HT9.out,S9.out⟩
            case measure=>simp [p9]; omega
          · have HR:=Lib.hid (S7.out.got (row:=av.row) (Wf:=av.Wf) (P:=(fun l=>l.length ≤ 41 ∧ ∀ x ∈ l,iC 5 x)) av.au (fun x h=>av.owned h) ⟨hm2,zG.out⟩ (oH zG.out));go_wp2_with fail;go_ret;exact HR.out
end draw
namespace draw
open Go.ChangeShapes Go.WideShapes Go.ChangeAt Go.RowKit ty lab need dedup
set_option maxRecDepth 1000000 in
set_option maxHeartbeats 8000000 in
theorem Cq (c : Nat) (A : Option Addr) (len cap : Nat) (z : Nat → Int) (w : World) (hc : jJ w c A len cap z) :
    Calls Tryz.prog 143 #[.pointer (some ⟨c,0,none⟩)] w (Nl (iY 4 3) c A len cap z w):=by
  obtain ⟨i0,hi,hz0,hz1,hz2⟩:=info_parts TryzinfoNeed;have aL:=hc.lt;have hown0 : (w.alloc (.cells #[] 69)).ownsRow w.heap.size 69 3 (.slice (some ⟨w.heap.size,0,none⟩) 0 0) 0 []:=World.ownsRow_lit w #[] 0 (Nat.le_refl _) (by simp [maxLen]) rfl;obtain ⟨F0,ho0,hn0,_⟩:=(dx.GV (f:=1) hown0).own;have S0:=Lib.hid (show FH w c A len cap z (.slice (some ⟨w.heap.size,0,none⟩) 0 0) [] 1 F0 (w.alloc (.cells #[] 69)) from ⟨dD hc _,bX _ _ _,ho0,hn0⟩);clear hc hown0 ho0 hn0;go_enter Tryz.func143,Tryz.ntmps143;go_wp2_with fail
  go_loopw [3,4] (fun vo i wr=>∃ (j : Nat) (l : List Need) (f : Nat) (F : List Nat),j ≤ 3 ∧ i = .int .i64 j ∧ Hid (iY 4 3 l) ∧ FH w c A len cap z vo l f F wr) (fun _ i _=>3 - (intOf i).toNat)
  case atStart=>exact ⟨0,[],1,F0,by omega,rfl,Lib.hid ⟨by simp,fun x hx=>by cases hx⟩,S0.out⟩
  case round=>
    clear S0;obtain ⟨j,l,f,F,hj,rfl,hl,hst⟩:=hrel;have HB:=Lib.hid (bM c A len cap z 3 wr hst.cur (by decide) (by decide));obtain ⟨Ao,co,rfl,VU,Ko,_⟩:=bD Need.au hst.own.lies;have BU:=Lib.hid hst;clear hst;go_wp2_with fail;refine HB.out.mono ?_;rintro e w1 ⟨x,hx,rfl,hc1,hg1⟩;have S1:=Lib.hid (BU.out.turn aL hc1 hg1);clear hc1 hg1 HB BU;by_cases hlt : (j : Int) < x
    · have hj3 : j < 3:=(by omega);have hl4:=hl.out.1;have Ww:=Lib.hid S1.out.grown.size;have Yv:=Lib.hid (fun q (hq : q ∈ F)=>(S1.out.own.range q hq).2);have HC:=Lib.hid (mX l _ _ w1 S1.out.own.lies (by omega) (fun i hi=>by have:=(hl.out.2 l[i] (List.getElem_mem hi)).n; omega));go_wp2_with fail;refine HC.out.mono ?_;rintro e w2 ⟨v2,rfl,hrow2,hb2⟩;obtain ⟨B2,d2,rfl⟩:=hrow2.eD;have S2:=Lib.hid (S1.out.below aL hb2);have HN:=Lib.hid (FD c A len cap z w2 S2.out.cur);have TP:=Lib.hid hrow2;have Wx:=Lib.hid hb2.size;have Wy : c < w1.heap.size:=S1.out.cur.lt;clear hrow2 hb2 HC S1;go_wp2_with fail;refine HN.out.mono ?_;rintro e w3 ⟨y,us,G,hy,rfl,tZ,xK,hc3,hg3⟩;obtain ⟨u0,u1,u2,rfl⟩:=us3 tZ;have S3:=Lib.hid (S2.out.turn aL hc3 hg3);obtain ⟨xs,F2,hr1,hr2,hr3,hr4,jy⟩:=TP.out
      have XF : ∀ q ∈ F2,q ∉ G:=fun q hq Wz=>by
        have h1:=(tZ.range q Wz).1;have h2:=(hr3.range q hq).2;omega
      have VK : ∀ q ∈ G,(Value.slice B2 l.length d2).ownBlock ≠ some q:=fun q Wz e=>by
        have h1:=(tZ.range q Wz).1;have h2:=(hr1.lt q e).2;omega
      obtain ⟨X,hX⟩ : ∃ X,X = w3.alloc (.cells #[u0,u1,u2] 69):=⟨_,rfl⟩;have hbX : Below w3.heap.size w3 X:=(by rw [hX]; exact (Below.refl _ _).alloc (Nat.le_refl _) _);have qP:=Lib.hid (o9 (w:=X) (b:=w3.heap.size) (us:=[u0,u1,u2]) rfl (by rw [hX]; exact heap_alloc_new w3 _));have iG:=Lib.hid tZ.ones;have HX:=Lib.hid hX;have SX:=Lib.hid (S3.out.below aL hbX);have LZ:=Lib.hid (own_below' (vN hr1 Wy hg3) hbX);have JI : w1.heap.size ≤ X.heap.size:=Nat.le_trans Wx.out (Nat.le_trans hg3.size hbX.size);have TQ:=Lib.hid (fun (v5 : Value) (w5 : World) (hown5 : w5.ownsRow w1.heap.size 69 3 v5 (l.length + 1) (xs ++ [u0,u1,u2])) hg5 DW=>dx.grow (w:=X) (f:=2) (m:=1) hr2 ((FC hr3 Wy hg3).below hbX) hr4 jy (Need.au y) ((tZ.lower Wx.out).below hbX) xK XF VK hown5 hg5 DW);have hyt:=hl.out.snoc hy;have HL:=Lib.hid hyt;have Hfl:=Lib.hid (show (l ++ [y]).flatMap Need.row = l.flatMap Need.row ++ y.row by rw [List.flatMap_append]; simp);clear hX hbX hr1 hr2 hr3 hr4 jy XF VK tZ xK hc3 hg3 HN S2 S3 TP hyt Wx;go_wp2_with (first | (at_builtin; rw [← HX.out]; refine aB rfl (.tmp 16) (.tmp 19) 25 rfl w1.heap.size 69 i0 _ 3 48 Tryz.underlying25 hi hz0 hz1 hz2 rfl (by decide) _ l.length xs rfl LZ.out (some ⟨w3.heap.size,0,none⟩) 1 1 [u0,u1,u2] rfl qP.out iG.out (by unfold maxLen; omega) (by omega) JI ?_) | fail);intro v5 w5 hown5 hg5 DW;have og:=TQ.out v5 w5 hown5 hg5 DW;rw [← Hfl.out] at og;have hb5 : Below w1.heap.size X w5:=(Below.refl _ _).grown hg5 JI (fun b hb=>(LZ.out.lt b hb).1);obtain ⟨A5,c5,rfl⟩:=aW hown5;have S5:=Lib.hid (show FH w c A len cap z (.slice Ao l.length co) l f F w5 from ⟨SX.out.cur.below hb5 Wy,aK SX.out.grown (hb5.mono (by have:=Ww.out; omega)),Own.kept (fun q hq=>hb5.block q (Yv.out q hq)) SX.out.own,SX.out.nd⟩)
      have HS:=Lib.hid (zL (l ++ [y]) 3 (.slice A5 (l.length + 1) c5) w5 (by
        obtain ⟨F5,uP,_⟩:=og.own;have hlen : (l ++ [y]).length = l.length + 1:=(by simp);rw [hlen];exact uP.lies) (HL.out.wts (by decide) (by decide)))
      have HP:=Lib.hid (fun h=>FI HL.out h);clear hown5 hg5 DW og hb5 SX LZ TQ qP iG HL Hfl HX;generalize iF (l ++ [y]) = r at HS HP;obtain ⟨r1,r2⟩:=r;go_wp2_with fail;refine HS.out.mono ?_;rintro e w6 ⟨v6,f6,F6,rfl,XH,XI,hb6⟩;have S6:=Lib.hid (S5.out.below aL hb6);have S6':=Lib.hid (show FH w c A len cap z v6 r1 f6 F6 w6 from ⟨S6.out.cur,S6.out.grown,XH.lower S5.out.grown.size,XI⟩);obtain ⟨A6,c6,rfl,_⟩:=bD Need.au XH.lies;clear XH XI hb6 S5 HS;cases r2 with
      | true=>
        have Ht:=Lib.hid (HP.out rfl);clear HP S6;go_wp2_with fail
        go_roundw
        case rel=>exact ⟨j + 1,r1,f6,F6,by omega,by go_num,Ht.out,S6'.out⟩
        case measure=>simp [intOf]; omega
      | false=>
        clear HP S6';go_wp2_with fail
        go_roundw
        case rel=>exact ⟨j + 1,l,f,F,by omega,by go_num,hl.out,S6.out⟩
        case measure=>simp [intOf]; omega
    · have HR:=Lib.hid (S1.out.got hl.out);go_wp2_with fail;go_ret;exact HR.out
end draw
namespace draw
open Go.ChangeShapes Go.WideShapes Go.ChangeAt Go.RowKit ty lab dedup taint need
theorem kJ {l : List aj} (h : ∀ x ∈ l,gW 5 x) : ∀ x ∈ l,x.Wf:=fun x hx=>(h x hx).wf (by decide)
theorem mZ : ∀ {l : List aj},(∀ x ∈ l,gW 5 x) → bH aj.wt l ≤ 10 * l.length
  | [],_=>by simp [bH]
  | x :: l,h=>by
    have h1:=mZ (l:=l) fun y hy=>h y (List.mem_cons_of_mem _ hy);have h2:=h x List.mem_cons_self;have h3:=h2.key;have h4:=h2.value;have e : bH aj.wt (x :: l) = x.wt + bH aj.wt l:=(by simp [bH]);have h5 : x.wt ≤ 10:=(by unfold aj.wt; omega);rw [e,List.length_cons];omega
theorem jE {l : List aj} {x : aj} (h : ∀ x ∈ l,gW 5 x) (hx : gW 5 x) : ∀ y ∈ l ++ [x],gW 5 y:=fun y hy=>by
  rcases List.mem_append.1 hy with hy | hy
  · exact h y hy
  · rw [List.mem_singleton] at hy; subst hy; exact hx
set_option maxRecDepth 1000000 in
set_option maxHeartbeats 16000000 in
theorem ng (c : Nat) (A : Option Addr) (len cap : Nat) (z : Nat → Int) (w : World) (hc : jJ w c A len cap z) :
    Calls Tryz.prog 144 #[.pointer (some ⟨c,0,none⟩)] w (MB 4 aj.row (fun l=>l.length ≤ 4 ∧ ∀ x ∈ l,gW 5 x) c A len cap z w):=by
  obtain ⟨i0,hi,hz0,hz1,hz2⟩:=info_parts TryzinfITolerance;have aL:=hc.lt;have hown0 : (w.alloc (.cells #[] 86)).ownsRow w.heap.size 86 4 (.slice (some ⟨w.heap.size,0,none⟩) 0 0) 0 ([].flatMap aj.cells):=World.ownsRow_lit w #[] 0 (Nat.le_refl _) (by simp [maxLen]) rfl;obtain ⟨F0,ho0,hn0,_⟩:=fB (l:=[]) hown0 (by intro x hx; cases hx);have ML:=Lib.hid ho0;have Tg:=Lib.hid hn0;have Ti:=Lib.hid (dD hc (.cells #[] 86));have Tj:=Lib.hid (bX w (.cells #[] 86) (some c));clear hc hown0 ho0 hn0;go_enter Tryz.func144,Tryz.ntmps144;go_wp2_with fail
  go_loopw [3,4] (fun vo i wr=>∃ (j : Nat) (l : List aj) (f : Nat) (F : List Nat),j ≤ 3 ∧ i = .int .i64 j ∧ l.length ≤ 4 ∧ Hid (∀ x ∈ l,gW 5 x) ∧ Own wr w.heap.size (f + 1) vo (.sl 4 l.length (l.flatMap aj.row)) F ∧ Hid F.Nodup ∧ jJ wr c A len cap z ∧ w.grownBy wr (some c)) (fun _ i _=>3 - (intOf i).toNat)
  case atStart=>exact ⟨0,[],1,F0,by omega,rfl,by simp,(by intro x hx; cases hx),ML.out,Tg.out,Ti.out,Tj.out⟩
  case round=>
    clear ML Tg Ti Tj;obtain ⟨j,l,f,F,hj,rfl,PK,jX,ho,hnd,hcur,hgr⟩:=hrel;have HB:=Lib.hid (bM c A len cap z 3 wr hcur (by decide) (by decide));obtain ⟨Ao,co,rfl,VU,Ko,_⟩:=bD aj.au ho.lies;unfold maxLen at Ko;have Ho:=Lib.hid ho;have nI:=Lib.hid hgr;clear ho hgr hcur;go_wp2_with fail;refine HB.out.mono ?_;rintro e w1 ⟨x,hx,rfl,hc1,hg1⟩;have ho1:=q9 Ho.out aL hg1;have Tk:=Lib.hid ho1;have zo:=Lib.hid (aA nI.out hg1);have GQ:=Lib.hid hc1;have qx:=hc1.lt;obtain ⟨A',c',hA',_,_,f',hf',hels⟩:=bD aj.au ho1.lies;injection hA' with a1 a2 a3;subst a1 a3;obtain ⟨hrd,_⟩:=iI hels;have gZ:=hrd.below ((Below.refl w1.heap.size w1).alloc (Nat.le_refl _) (.cells #[] 86));have nK:=Lib.hid gZ;have kX:=Lib.hid (show (w1.alloc (.cells #[] 86)).ownsRow w1.heap.size 86 4 (.slice (some ⟨w1.heap.size,0,none⟩) 0 0) 0 [] from World.ownsRow_lit w1 #[] 0 (Nat.le_refl _) (by simp [maxLen]) rfl);clear hg1 hc1 ho1 hels hrd gZ hf' Ho nI HB;by_cases hlt : (j : Int) < x
    · have hj3 : j + 1 ≤ 3:=(by omega);go_wp2_with (first | (at_builtin; refine aB rfl (.tmp 15) (.tmp 16) 26 rfl w1.heap.size 86 i0 _ 4 48 Tryz.underlying26 hi hz0 hz1 hz2 rfl (by decide) _ 0 [] rfl kX.out Ao l.length co (l.flatMap aj.cells) rfl nK.out (flt.eP aj.cells_one l) (by unfold maxLen; omega) (by omega) (by simp) ?_) | fail);intro v3 w3 hown3 hg3 MN
      try simp only [Nat.zero_add,List.nil_append] at hown3
      obtain ⟨A3,c3,rfl⟩:=aW hown3;have hb3:=Below.grown ((Below.refl w1.heap.size w1).alloc (Nat.le_refl _) (.cells #[] 86)) hg3 (by simp) (fun b hb=>by simp [Value.ownBlock] at hb; omega);have Hb3:=Lib.hid hb3;have ku:=Lib.hid hown3;have HK:=Lib.hid (JD c A len cap z w3 (GQ.out.below (hb3.mono (show c + 1 ≤ w1.heap.size from qx)) (Nat.lt_succ_self c)));clear hown3 hg3 MN hb3 kX nK;go_wp2_with fail;refine HK.out.mono ?_;rintro e w5 ⟨xl,hxt,he,mH,hg5⟩;obtain rfl : e = .returned (.agg #[.string xl.key,.bool xl.equal,.string xl.value,.int .i64 xl.effect]):=he;have Wv:=Lib.hid hxt;have kT:=Lib.hid (za ku.out qx hg5);have MO:=Lib.hid (aA (aR Hb3.out (some c)) hg5);have Qh:=Lib.hid mH;have hs5 : w1.heap.size ≤ w5.heap.size:=MO.out.size;clear mH hg5 ku Hb3 HK hxt;go_wp2_with (first | (at_builtin; refine aB rfl (.tmp 17) (.tmp 20) 26 rfl w1.heap.size 86 i0 _ 4 48 Tryz.underlying26 hi hz0 hz1 hz2 rfl (by decide) _ l.length _ rfl (own_below' kT.out ((Below.refl _ _).alloc (Nat.le_refl _) _)) (some ⟨w5.heap.size,0,none⟩) 1 1 [.string xl.key,.bool xl.equal,.string xl.value,.int .i64 xl.effect] rfl (sI w5 86 [.string xl.key,.bool xl.equal,.string xl.value,.int .i64 xl.effect] rfl) (aj.cells_one xl) (by unfold maxLen; omega) (by omega) (by simp; omega) ?_) | fail);intro v7 w7 gT gM ig;have rA : w7.ownsRow w1.heap.size 86 4 v7 (l ++ [xl]).length ((l ++ [xl]).flatMap aj.cells):=(by rw [List.flatMap_append,List.length_append,List.flatMap_cons,List.flatMap_nil,List.append_nil]; exact gT);have nP : Below w1.heap.size w5 w7:=Below.grown ((Below.refl w1.heap.size w5).alloc hs5 _) gM (by simp; omega) (fun b hb=>(kT.out.lt b hb).1);have MP:=Lib.hid (draw.aK MO.out (nP.mono (Nat.le_refl _)));have Tm:=Lib.hid (Qh.out.below (nP.mono (show c + 1 ≤ w1.heap.size from qx)) (Nat.lt_succ_self c));have htl : ∀ y ∈ l ++ [xl],gW 5 y:=jE jX.out Wv.out;obtain ⟨A7,c7,rfl⟩:=aW rA;obtain ⟨F7,Jo,VW,_⟩:=fB rA (kJ htl);have HS:=Lib.hid (mY (l ++ [xl]) _ _ w7 Jo.lies (Nat.le_trans (mZ htl) (by simp; omega)) (by simp; omega))
      have nQ : Hid ((dK dN bU (l ++ [xl])).2 = true → (dK dN bU (l ++ [xl])).1.length ≤ 4 ∧ ∀ y ∈ (dK dN bU (l ++ [xl])).1,gW 5 y):=fun h=>by
        rcases jY (lt:=bU) dN (l ++ [xl]) with e | ⟨e,hP⟩
        · rw [e] at h; cases h
        · rw [e];exact ⟨hP.1,fun y hy=>htl y (gu _ _ y hy)⟩
      have hs7 : w1.heap.size ≤ w7.heap.size:=MP.out.size;rw [List.length_append,List.length_singleton] at HS;clear gT rA gM ig nP Jo VW htl kT MO Qh;generalize dK dN bU (l ++ [xl]) = r at HS nQ;obtain ⟨r1,r2⟩:=r;go_wp2_with fail;refine HS.out.mono ?_;rintro e w8 ⟨v8,f8,F8,rfl,MQ,Tn,G8⟩;have X5:=Lib.hid (MQ.lower (show w.heap.size ≤ w7.heap.size from Nat.le_trans zo.out.size hs7));have X6:=Lib.hid Tn;have Tp:=Lib.hid (draw.aK MP.out (G8.mono hs7));have Tq:=Lib.hid (Tm.out.below (G8.mono (show c + 1 ≤ w7.heap.size by omega)) (Nat.lt_succ_self c));have MR:=Lib.hid (q9 Tk.out aL Tp.out);have EM:=Lib.hid (aA zo.out Tp.out);obtain ⟨A8,c8,rfl,_,_,_⟩:=bD aj.au MQ.lies;clear MQ Tn G8 HS MP Tm;cases r2 with
      | true=>
        have hgd:=nQ.out rfl;have X7:=Lib.hid hgd.2;have Tt : r1.length ≤ 4:=hgd.1;clear hgd nQ;go_wp2_with fail
        go_roundw
        case rel=>exact ⟨j + 1,r1,f8,F8,hj3,by go_num,Tt,X7.out,X5.out,X6.out,Tq.out,EM.out⟩
        case measure=>simp [intOf]; omega
      | false=>
        clear nQ;go_wp2_with fail
        go_roundw
        case rel=>exact ⟨j + 1,l,f,F,hj3,by go_num,PK,jX.out,MR.out,hnd.out,Tq.out,EM.out⟩
        case measure=>simp [intOf]; omega
    · go_wp2_with fail;go_ret;exact ⟨l,_,f,F,⟨PK,jX.out⟩,rfl,Tk.out,hnd.out,GQ.out,zo.out⟩
end draw
end Go.Proofs.YtcfbkfmkjggcdaaGreatDoor
