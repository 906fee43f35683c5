/- Merged: HostS CopyHS SameLS SameNS SameC. -/
import Derived.Test.YtcfbkfmkjggcdaaGreatDoorGA15
import Derived.Test.YtcfbkfmkjggcdaaGreatDoorGA3
import Derived.Test.YtcfbkfmkjggcdaaGreatDoorGA6
import Derived.Test.YtcfbkfmkjggcdaaGreatDoorGA9
import Derived.Test.YtcfbkfmkjggcdaaGreatDoorGA17
import Derived.Test.YtcfbkfmkjggcdaaGreatDoorGA5
import Derived.Laws.Cover1
import Derived.Test.YtcfbkfmkjggcdaaGreatDoorGA10
import Derived.Test.YtcfbkfmkjggcdaaGreatDoorGA0
import Derived.Test.YtcfbkfmkjggcdaaGreatDoorGA7
import Derived.Deep.WholeRow
import Derived.Test.YtcfbkfmkjggcdaaGreatDoorGA13
set_option linter.unusedVariables false
namespace Go.Proofs.YtcfbkfmkjggcdaaGreatDoor
namespace pod
open Go.ChangeShapes Go.WideShapes Go.ChangeAt Go.RowKit ty lab need taint
set_option maxRecDepth 100000 in
set_option maxHeartbeats 32000000 in
theorem CV (x : Host) (f : Nat) (us : List Value) (w : World) (h : aH w f us x.row) (hz : x.wt ≤ 1048576) :
    Calls Tryz.prog 18 #[.agg us.toArray] w fun e w'=>e = .returned (.bool (yes (kU x))) ∧ Below w.heap.size w w':=by
  obtain ⟨R,hR⟩ : ∃ R,yes (kU x) = R:=⟨_,rfl⟩;rw [hR];have Hno : Hid (¬ kU x → R = false):=fun h=>by rw [← hR]; exact aP h
  have aG : Hid (kU x → R = true):=fun h=>by rw [← hR]; exact aQ h
  clear hR;obtain ⟨a0,a1,a2,a3,a4,a5⟩:=x;obtain ⟨A1,c1,A5,c5,rfl,hwf,k1,m1,l1,k5,m5,l5⟩:=Host.opened h;unfold Host.wt at hz;simp only at hz hwf k1 m1 l1 k5 m5 l5;obtain ⟨w1,hw1⟩ : ∃ w1,w1 = w.alloc (.cells #[.string a0,.slice A1 a1.length c1,.int .i64 a2,.int .i64 a3,.int .i64 a4,.slice A5 a5.length c5] 32):=⟨_,rfl⟩;have hb1 : Below w.heap.size w w1:=(by rw [hw1]; exact (Below.refl _ _).alloc (Nat.le_refl _) _);have R1:=Lib.hid (show aC 32 w1 w.heap.size [.string a0,.slice A1 a1.length c1,.int .i64 a2,.int .i64 a3,.int .i64 a4,.slice A5 a5.length c5] by rw [hw1]; exact aC.new _ _ _);have eT:=Lib.hid hw1;have C0:=Lib.hid (fun w' (hb : Below w.heap.size w w')=>qb (Cw a0 w' (by omega)));have C1:=Lib.hid (fun w' (hb : Below w.heap.size w w')=>qb (rz a1 f _ w' (l1.below hb) (lQ (by omega))));have C5:=Lib.hid (fun w' (hb : Below w.heap.size w w')=>tY a5 f _ w' (l5.below hb) (by omega));have HB1:=Lib.hid hb1;clear h hz hwf hb1 hw1 k1 m1 l1 k5 m5 l5;by_cases h0 : nL a0
  case neg=>
    have Hf:=Lib.hid (Hno.out fun h=>h0 h.name);clear Hno aG;rw [aP h0] at C0;clear h0;go_enter Tryz.func18,Tryz.ntmps18;go_wp2_with fail;rw [← eT.out];refine (C0.out _ HB1.out).mono ?_;rintro e y0 ⟨rfl,b0⟩;have bI:=Lib.hid (ah HB1.out b0 HB1.out.size);have bC:=Lib.hid (R1.out.below b0);clear b0;have eF:=bC.out.cell 0 _ rfl;have dM:=bC.out.cell 1 _ rfl;have eG:=bC.out.cell 2 _ rfl;have eH:=bC.out.cell 3 _ rfl;have eO:=bC.out.cell 4 _ rfl;have dL:=bC.out.cell 5 _ rfl;go_wp2_with fail;go_ret;exact ⟨by rw [Hf.out]; rfl,bI.out⟩
  rw [aQ h0] at C0;by_cases h1 : dw a1
  case neg=>
    have Hf:=Lib.hid (Hno.out fun h=>h1 h.labels);clear Hno aG;rw [aP h1] at C1;clear h0 h1;go_enter Tryz.func18,Tryz.ntmps18;go_wp2_with fail;rw [← eT.out];refine (C0.out _ HB1.out).mono ?_;rintro e y0 ⟨rfl,b0⟩;have bI:=Lib.hid (ah HB1.out b0 HB1.out.size);have bC:=Lib.hid (R1.out.below b0);clear b0;have eF:=bC.out.cell 0 _ rfl;have dM:=bC.out.cell 1 _ rfl;have eG:=bC.out.cell 2 _ rfl;have eH:=bC.out.cell 3 _ rfl;have eO:=bC.out.cell 4 _ rfl;have dL:=bC.out.cell 5 _ rfl;go_wp2_with fail;refine (C1.out _ bI.out).mono ?_;rintro e y1 ⟨rfl,b1⟩;have aZ:=Lib.hid (ah bI.out b1 bI.out.size);have bK:=Lib.hid (bC.out.below b1);clear eF dM eG eH eO dL;clear b1;have cB:=bK.out.cell 0 _ rfl;have bZ:=bK.out.cell 1 _ rfl;have cK:=bK.out.cell 2 _ rfl;have cO:=bK.out.cell 3 _ rfl;have cZ:=bK.out.cell 4 _ rfl;have dh:=bK.out.cell 5 _ rfl;go_wp2_with fail;go_ret;exact ⟨by rw [Hf.out]; rfl,aZ.out⟩
  rw [aQ h1] at C1;by_cases h2 : 0 ≤ a2
  case neg=>
    have Hf:=Lib.hid (Hno.out fun h=>h2 h.cpu);clear Hno aG;have g2:=decide_eq_false h2;clear h0 h1;go_enter Tryz.func18,Tryz.ntmps18;go_wp2_with fail;rw [← eT.out];refine (C0.out _ HB1.out).mono ?_;rintro e y0 ⟨rfl,b0⟩;have bI:=Lib.hid (ah HB1.out b0 HB1.out.size);have bC:=Lib.hid (R1.out.below b0);clear b0;have eF:=bC.out.cell 0 _ rfl;have dM:=bC.out.cell 1 _ rfl;have eG:=bC.out.cell 2 _ rfl;have eH:=bC.out.cell 3 _ rfl;have eO:=bC.out.cell 4 _ rfl;have dL:=bC.out.cell 5 _ rfl;go_wp2_with fail;refine (C1.out _ bI.out).mono ?_;rintro e y1 ⟨rfl,b1⟩;have aZ:=Lib.hid (ah bI.out b1 bI.out.size);have bK:=Lib.hid (bC.out.below b1);clear eF dM eG eH eO dL;clear b1;have cB:=bK.out.cell 0 _ rfl;have bZ:=bK.out.cell 1 _ rfl;have cK:=bK.out.cell 2 _ rfl;have cO:=bK.out.cell 3 _ rfl;have cZ:=bK.out.cell 4 _ rfl;have dh:=bK.out.cell 5 _ rfl;go_wp2_with fail;go_ret;exact ⟨by rw [Hf.out]; rfl,aZ.out⟩
  have g2:=decide_eq_true h2;by_cases h3 : 0 ≤ a3
  case neg=>
    have Hf:=Lib.hid (Hno.out fun h=>h3 h.mem);clear Hno aG;have g3:=decide_eq_false h3;clear h0 h1;go_enter Tryz.func18,Tryz.ntmps18;go_wp2_with fail;rw [← eT.out];refine (C0.out _ HB1.out).mono ?_;rintro e y0 ⟨rfl,b0⟩;have bI:=Lib.hid (ah HB1.out b0 HB1.out.size);have bC:=Lib.hid (R1.out.below b0);clear b0;have eF:=bC.out.cell 0 _ rfl;have dM:=bC.out.cell 1 _ rfl;have eG:=bC.out.cell 2 _ rfl;have eH:=bC.out.cell 3 _ rfl;have eO:=bC.out.cell 4 _ rfl;have dL:=bC.out.cell 5 _ rfl;go_wp2_with fail;refine (C1.out _ bI.out).mono ?_;rintro e y1 ⟨rfl,b1⟩;have aZ:=Lib.hid (ah bI.out b1 bI.out.size);have bK:=Lib.hid (bC.out.below b1);clear eF dM eG eH eO dL;clear b1;have cB:=bK.out.cell 0 _ rfl;have bZ:=bK.out.cell 1 _ rfl;have cK:=bK.out.cell 2 _ rfl;have cO:=bK.out.cell 3 _ rfl;have cZ:=bK.out.cell 4 _ rfl;have dh:=bK.out.cell 5 _ rfl;go_wp2_with fail;go_ret;exact ⟨by rw [Hf.out]; rfl,aZ.out⟩
  have g3:=decide_eq_true h3;by_cases h4 : (1 : Int) ≤ a4 ∧ a4 ≤ 20
  case neg=>
    have Hf:=Lib.hid (Hno.out fun h=>h4 ⟨h.lo,h.hi⟩);clear Hno aG;have C4:=Lib.hid (fun w'=>vS a4 1 20 w');rw [aP h4] at C4;clear h0 h1 h4;go_enter Tryz.func18,Tryz.ntmps18;go_wp2_with fail;rw [← eT.out];refine (C0.out _ HB1.out).mono ?_;rintro e y0 ⟨rfl,b0⟩;have bI:=Lib.hid (ah HB1.out b0 HB1.out.size);have bC:=Lib.hid (R1.out.below b0);clear b0;have eF:=bC.out.cell 0 _ rfl;have dM:=bC.out.cell 1 _ rfl;have eG:=bC.out.cell 2 _ rfl;have eH:=bC.out.cell 3 _ rfl;have eO:=bC.out.cell 4 _ rfl;have dL:=bC.out.cell 5 _ rfl;go_wp2_with fail;refine (C1.out _ bI.out).mono ?_;rintro e y1 ⟨rfl,b1⟩;have aZ:=Lib.hid (ah bI.out b1 bI.out.size);have bK:=Lib.hid (bC.out.below b1);clear eF dM eG eH eO dL;clear b1;have cB:=bK.out.cell 0 _ rfl;have bZ:=bK.out.cell 1 _ rfl;have cK:=bK.out.cell 2 _ rfl;have cO:=bK.out.cell 3 _ rfl;have cZ:=bK.out.cell 4 _ rfl;have dh:=bK.out.cell 5 _ rfl;go_wp2_with fail;refine (C4.out _).mono ?_;rintro e y4 ⟨rfl,b4⟩;have nH:=Lib.hid (ah aZ.out b4 aZ.out.size);have kS:=Lib.hid (bK.out.below b4);clear cB bZ cK cO cZ dh;clear b4;have Au:=kS.out.cell 0 _ rfl;have Aw:=kS.out.cell 1 _ rfl;have AA:=kS.out.cell 2 _ rfl;have AB:=kS.out.cell 3 _ rfl;have AJ:=kS.out.cell 4 _ rfl;have AL:=kS.out.cell 5 _ rfl;go_wp2_with fail;go_ret;exact ⟨by rw [Hf.out]; rfl,nH.out⟩
  have C4:=Lib.hid (fun w'=>vS a4 1 20 w');rw [aQ h4] at C4;by_cases h5 : bL a5
  case neg=>
    have Hf:=Lib.hid (Hno.out fun h=>h5 h.bP);clear Hno aG;rw [aP h5] at C5;clear h0 h1 h4 h5;go_enter Tryz.func18,Tryz.ntmps18;go_wp2_with fail;rw [← eT.out];refine (C0.out _ HB1.out).mono ?_;rintro e y0 ⟨rfl,b0⟩;have bI:=Lib.hid (ah HB1.out b0 HB1.out.size);have bC:=Lib.hid (R1.out.below b0);clear b0;have eF:=bC.out.cell 0 _ rfl;have dM:=bC.out.cell 1 _ rfl;have eG:=bC.out.cell 2 _ rfl;have eH:=bC.out.cell 3 _ rfl;have eO:=bC.out.cell 4 _ rfl;have dL:=bC.out.cell 5 _ rfl;go_wp2_with fail;refine (C1.out _ bI.out).mono ?_;rintro e y1 ⟨rfl,b1⟩;have aZ:=Lib.hid (ah bI.out b1 bI.out.size);have bK:=Lib.hid (bC.out.below b1);clear eF dM eG eH eO dL;clear b1;have cB:=bK.out.cell 0 _ rfl;have bZ:=bK.out.cell 1 _ rfl;have cK:=bK.out.cell 2 _ rfl;have cO:=bK.out.cell 3 _ rfl;have cZ:=bK.out.cell 4 _ rfl;have dh:=bK.out.cell 5 _ rfl;go_wp2_with fail;refine (C4.out _).mono ?_;rintro e y4 ⟨rfl,b4⟩;have nH:=Lib.hid (ah aZ.out b4 aZ.out.size);have kS:=Lib.hid (bK.out.below b4);clear cB bZ cK cO cZ dh;clear b4;have Au:=kS.out.cell 0 _ rfl;have Aw:=kS.out.cell 1 _ rfl;have AA:=kS.out.cell 2 _ rfl;have AB:=kS.out.cell 3 _ rfl;have AJ:=kS.out.cell 4 _ rfl;have AL:=kS.out.cell 5 _ rfl;go_wp2_with fail;refine (C5.out _ nH.out).mono ?_;rintro e y5 ⟨rfl,b5⟩;have iA:=Lib.hid (ah nH.out b5 nH.out.size);have ql:=Lib.hid (kS.out.below b5);clear Au Aw AA AB AJ AL;clear b5;have rW:=ql.out.cell 0 _ rfl;have rX:=ql.out.cell 1 _ rfl;have rY:=ql.out.cell 2 _ rfl;have rZ:=ql.out.cell 3 _ rfl;have sj:=ql.out.cell 4 _ rfl;have su:=ql.out.cell 5 _ rfl;go_wp2_with fail;go_ret;exact ⟨by rw [Hf.out]; rfl,iA.out⟩
  rw [aQ h5] at C5;have Hf:=Lib.hid (aG.out ⟨h0,h1,h2,h3,h4.1,h4.2,h5⟩);clear Hno aG h0 h1 h4 h5;go_enter Tryz.func18,Tryz.ntmps18;go_wp2_with fail;rw [← eT.out];refine (C0.out _ HB1.out).mono ?_;rintro e y0 ⟨rfl,b0⟩;have bI:=Lib.hid (ah HB1.out b0 HB1.out.size);have bC:=Lib.hid (R1.out.below b0);clear b0;have eF:=bC.out.cell 0 _ rfl;have dM:=bC.out.cell 1 _ rfl;have eG:=bC.out.cell 2 _ rfl;have eH:=bC.out.cell 3 _ rfl;have eO:=bC.out.cell 4 _ rfl;have dL:=bC.out.cell 5 _ rfl;go_wp2_with fail;refine (C1.out _ bI.out).mono ?_;rintro e y1 ⟨rfl,b1⟩;have aZ:=Lib.hid (ah bI.out b1 bI.out.size);have bK:=Lib.hid (bC.out.below b1);clear eF dM eG eH eO dL;clear b1;have cB:=bK.out.cell 0 _ rfl;have bZ:=bK.out.cell 1 _ rfl;have cK:=bK.out.cell 2 _ rfl;have cO:=bK.out.cell 3 _ rfl;have cZ:=bK.out.cell 4 _ rfl;have dh:=bK.out.cell 5 _ rfl;go_wp2_with fail;refine (C4.out _).mono ?_;rintro e y4 ⟨rfl,b4⟩;have nH:=Lib.hid (ah aZ.out b4 aZ.out.size);have kS:=Lib.hid (bK.out.below b4);clear cB bZ cK cO cZ dh;clear b4;have Au:=kS.out.cell 0 _ rfl;have Aw:=kS.out.cell 1 _ rfl;have AA:=kS.out.cell 2 _ rfl;have AB:=kS.out.cell 3 _ rfl;have AJ:=kS.out.cell 4 _ rfl;have AL:=kS.out.cell 5 _ rfl;go_wp2_with fail;refine (C5.out _ nH.out).mono ?_;rintro e y5 ⟨rfl,b5⟩;have iA:=Lib.hid (ah nH.out b5 nH.out.size);have ql:=Lib.hid (kS.out.below b5);clear Au Aw AA AB AJ AL;clear b5;have rW:=ql.out.cell 0 _ rfl;have rX:=ql.out.cell 1 _ rfl;have rY:=ql.out.cell 2 _ rfl;have rZ:=ql.out.cell 3 _ rfl;have sj:=ql.out.cell 4 _ rfl;have su:=ql.out.cell 5 _ rfl;go_wp2_with fail;go_ret;exact ⟨by rw [Hf.out]; rfl,iA.out⟩
end pod
namespace pod
open Go.ChangeShapes Go.WideShapes Go.ChangeAt Go.RowKit ty lab taint
set_option maxRecDepth 100000 in
set_option maxHeartbeats 16000000 in
theorem I9 (x : Host) (f : Nat) (us : List Value) (w : World) (h : aH w f us x.row) (hz : x.wt ≤ 1048576) :
    Calls Tryz.prog 47 #[.agg us.toArray] w fun e w'=>H9 w 2 x.row e w':=by
  obtain ⟨a0,a1,a2,a3,a4,a5⟩:=x;obtain ⟨A1,c1,A5,c5,rfl,hwf,k1,m1,l1,k5,m5,l5⟩:=Host.opened h;unfold Host.wt at hz;simp only at hz hwf k1 m1 l1 k5 m5 l5;obtain ⟨w1,hw1⟩ : ∃ w1,w1 = (w.alloc (.cells #[.string a0,.slice A1 a1.length c1,.int .i64 a2,.int .i64 a3,.int .i64 a4,.slice A5 a5.length c5] 32)).alloc (.cells #[.string ⟨#[]⟩,.slice none 0 0,.int .i64 0,.int .i64 0,.int .i64 0,.slice none 0 0] 32):=⟨_,rfl⟩;have S0:=Lib.hid (show wL 32 w [.string a0,.slice A1 a1.length c1,.int .i64 a2,.int .i64 a3,.int .i64 a4,.slice A5 a5.length c5] [.string ⟨#[]⟩,.slice none 0 0,.int .i64 0,.int .i64 0,.int .i64 0,.slice none 0 0] w1 by rw [hw1]; exact wL.new);have E1:=Lib.hid (show w1.heap.size = w.heap.size + 1 + 1 by rw [hw1]; simp);obtain ⟨i1,hi1,Xn,Xo,Xp⟩:=info_parts TryzinfoLab;obtain ⟨_,hk1⟩:=Dk Label.au l1;obtain ⟨hr1,hf1⟩:=gI hk1;have TG:=Lib.hid hr1;have Hf1:=Lib.hid hf1;clear hk1 hr1 hf1;have hn1 : a1.length ≤ 1048576:=(by omega);obtain ⟨i5,hi5,abS,abT,abU⟩:=info_parts TryzinfITaint;obtain ⟨_,hk5⟩:=Dk av.au l5;obtain ⟨jy,hf5⟩:=mI hk5;have Hr5:=Lib.hid jy;have Hf5:=Lib.hid hf5;clear hk5 jy hf5;have YH : a5.length ≤ 1048576:=(by omega);have eU:=Lib.hid hwf;have eT:=Lib.hid hw1;clear h hz hwf hw1 k1 m1 l1 k5 m5 l5;go_enter Tryz.func47,Tryz.ntmps47;obtain ⟨x1,hx1⟩ : ∃ x,x = w1.alloc (.cells #[] 65):=⟨_,rfl⟩;have I6 : Below w1.heap.size w1 x1:=(by rw [hx1]; exact (Below.refl _ _).alloc (Nat.le_refl _) _);have OH:=Lib.hid (show x1.ownsRow w1.heap.size 65 2 (.slice (some ⟨w.heap.size + 1 + 1,0,none⟩) 0 0) 0 [] by rw [← E1.out,hx1]; exact World.ownsRow_lit w1 #[] 0 (Nat.le_refl _) (by simp [maxLen]) rfl);have Y9:=Lib.hid (S0.out.call I6);have I7:=Lib.hid I6;have Za:=Lib.hid hx1;have iV:=Lib.hid (TG.out.below Y9.out.gK);have pc1 : (w1.alloc (.cells #[] 65)).cell? ⟨w.heap.size,1,none⟩ = some (.slice A1 a1.length c1):=(by rw [← Za.out]; exact Y9.out.k0.cell 1 _ rfl);clear I6 hx1;go_wp2_with (first | (rw [← eT.out]; rw [← Za.out]; refine aB rfl (.tmp 3) (.tmp 5) 24 rfl w1.heap.size 65 i1 _ 2 32 Tryz.underlying24 hi1 Xn Xo Xp rfl (by decide) _ 0 [] rfl OH.out A1 a1.length c1 (lvals a1) rfl iV.out (iU _) (by unfold maxLen; omega) (by omega) I7.out.size ?_) | fail);intro v1 y1 hown1 hg1 Xq
  try simp only [Nat.zero_add,List.nil_append] at hown1
  have hb1 : Below w1.heap.size w1 y1:=I7.out.grown hg1 I7.out.size (fun b hb=>by simp [Value.ownBlock] at hb; have:=E1.out; omega);obtain ⟨B1,d1,rfl⟩:=aW hown1;obtain ⟨F1,o1,n1,g1⟩:=gQ hown1 Hf1.out;clear hown1 hg1 Xq pc1;have oV : Og y1 w1.heap.size y1.heap.size 2 (.slice B1 a1.length d1) (.sl 2 a1.length (a1.flatMap Label.row)) F1:=⟨o1,n1,g1⟩;have dn:=Lib.hid S0.out.lt;have kE:=Lib.hid (show w1.heap.size ≤ y1.heap.size from hb1.size);have jg:=S0.out.call hb1;have dM : (y1).cell? ⟨w.heap.size,1,none⟩ = some (.slice A1 a1.length c1):=jg.k0.cell 1 _ rfl;have Ic:=aC.frozen jg.k0 1;have kF : wL 32 w [.string a0,.slice B1 a1.length d1,.int .i64 a2,.int .i64 a3,.int .i64 a4,.slice A5 a5.length c5] [.string ⟨#[]⟩,.slice none 0 0,.int .i64 0,.int .i64 0,.int .i64 0,.slice none 0 0] ((y1).setCell ⟨w.heap.size,1,none⟩ (.slice B1 a1.length d1)):=jg.put 1 (.slice B1 a1.length d1);have jM:=Og.put (j:=1) (u:=.slice B1 a1.length d1) oV (show w.heap.size < _ by have:=dn.out; omega);obtain ⟨z1,hz1⟩ : ∃ z,(y1).setCell ⟨w.heap.size,1,none⟩ (.slice B1 a1.length d1) = z:=⟨_,rfl⟩;have hE1 : ((y1).setCell ⟨w.heap.size,1,none⟩ (.slice B1 a1.length d1)).heap.size = y1.heap.size:=(by simp only [size_setCell]);rw [hz1] at kF hE1 jM;have S1:=Lib.hid kF;have mK:=Lib.hid hE1;have jZ:=Lib.hid jM;clear hb1 o1 n1 g1 hE1 jg kF jM oV;obtain ⟨x5,hx5⟩ : ∃ x,x = z1.alloc (.cells #[] 72):=⟨_,rfl⟩;have Xv : Below z1.heap.size z1 x5:=(by rw [hx5]; exact (Below.refl _ _).alloc (Nat.le_refl _) _);have Zd:=Lib.hid (show x5.ownsRow z1.heap.size 72 3 (.slice (some ⟨z1.heap.size,0,none⟩) 0 0) 0 [] by rw [hx5]; exact World.ownsRow_lit z1 #[] 0 (Nat.le_refl _) (by simp [maxLen]) rfl);have Sx5:=Lib.hid (S1.out.call Xv);have Xw:=Lib.hid Xv;have Hx5:=Lib.hid hx5;have abV:=Lib.hid (Hr5.out.below Sx5.out.gK);have II : (z1.alloc (.cells #[] 72)).cell? ⟨w.heap.size,5,none⟩ = some (.slice A5 a5.length c5):=(by rw [← Hx5.out]; exact Sx5.out.k0.cell 5 _ rfl);clear Xv hx5;go_wp2_with (first | (rw [← Hx5.out]; refine aB rfl (.tmp 8) (.tmp 10) 30 rfl z1.heap.size 72 i5 _ 3 40 Tryz.underlying30 hi5 abS abT abU rfl (by decide) _ 0 [] rfl Zd.out A5 a5.length c5 (a5.flatMap av.cells) rfl abV.out (flt.eP av.cells_one _) (by unfold maxLen; omega) (by omega) Xw.out.size ?_) | fail);intro v5 y5 hown5 hg5 DW
  try simp only [Nat.zero_add,List.nil_append] at hown5
  have hb5 : Below z1.heap.size z1 y5:=Xw.out.grown hg5 Xw.out.size (fun b hb=>by simp [Value.ownBlock] at hb; have:=E1.out; omega);obtain ⟨B5,d5,rfl⟩:=aW hown5;obtain ⟨F5,o5,n5,g5⟩:=jf hown5 Hf5.out;clear hown5 hg5 DW II;have oZ : Og y5 z1.heap.size y5.heap.size 2 (.slice B5 a5.length d5) (.sl 3 a5.length (a5.flatMap av.row)) F5:=⟨o5,n5,g5⟩;have dF:=Lib.hid S1.out.lt;have kG:=Lib.hid (show z1.heap.size ≤ y5.heap.size from hb5.size);have jh:=S1.out.call hb5;have gU:=jZ.out.call hb5;have dL : (y5).cell? ⟨w.heap.size,5,none⟩ = some (.slice A5 a5.length c5):=jh.k0.cell 5 _ rfl;have Fa:=aC.frozen jh.k0 5;have kZ : wL 32 w [.string a0,.slice B1 a1.length d1,.int .i64 a2,.int .i64 a3,.int .i64 a4,.slice B5 a5.length d5] [.string ⟨#[]⟩,.slice none 0 0,.int .i64 0,.int .i64 0,.int .i64 0,.slice none 0 0] ((y5).setCell ⟨w.heap.size,5,none⟩ (.slice B5 a5.length d5)):=jh.put 5 (.slice B5 a5.length d5);have lg:=Og.put (j:=5) (u:=.slice B5 a5.length d5) oZ (show w.heap.size < _ by have:=dF.out; omega);have fu:=Og.put (j:=5) (u:=.slice B5 a5.length d5) gU (show w.heap.size < _ by have:=dn.out; omega);obtain ⟨z5,Et⟩ : ∃ z,(y5).setCell ⟨w.heap.size,5,none⟩ (.slice B5 a5.length d5) = z:=⟨_,rfl⟩;have xg : ((y5).setCell ⟨w.heap.size,5,none⟩ (.slice B5 a5.length d5)).heap.size = y5.heap.size:=(by simp only [size_setCell]);rw [Et] at kZ xg lg fu;have S5:=Lib.hid kZ;have mM:=Lib.hid xg;have iD:=Lib.hid lg;have iE:=Lib.hid fu;clear hb5 o5 n5 g5 xg jh kZ lg fu oZ gU jZ;have dJ:=S5.out.k0;have bJ:=S5.out.k1;unfold aC at bJ dJ;go_wp2_with (first | (refine wpList_load_row rfl 32 _ rfl w.heap.size rfl 32 #[.string a0,.slice B1 a1.length d1,.int .i64 a2,.int .i64 a3,.int .i64 a4,.slice B5 a5.length d5] (0,0) _ dJ Tryz.underlying32 rfl aV ?_) | (refine wpList_store_row rfl 32 _ _ rfl (w.heap.size + 1) #[.string a0,.slice B1 a1.length d1,.int .i64 a2,.int .i64 a3,.int .i64 a4,.slice B5 a5.length d5] rfl rfl 32 _ bJ aV rfl (by simp [Value.oneCell']) ?_) | fail);obtain ⟨F,ho,hnd,_⟩:=Host.owned (x:=⟨a0,a1,a2,a3,a4,a5⟩) (f:=1) (w:=z5.setRow (w.heap.size + 1) #[.string a0,.slice B1 a1.length d1,.int .i64 a2,.int .i64 a3,.int .i64 a4,.slice B5 a5.length d5]) eU.out (iE.out.done (f':=2) (B':=w.heap.size) (c:=#[.string a0,.slice B1 a1.length d1,.int .i64 a2,.int .i64 a3,.int .i64 a4,.slice B5 a5.length d5]) (show w.heap.size + 1 < _ by have:=mK.out; have:=kE.out; have:=dn.out; have:=mM.out; have:=kG.out; have:=dF.out; omega) (by have:=mK.out; have:=kE.out; have:=dn.out; have:=mM.out; have:=kG.out; have:=dF.out; omega) (by decide)) (iD.out.done (f':=2) (B':=w.heap.size) (c:=#[.string a0,.slice B1 a1.length d1,.int .i64 a2,.int .i64 a3,.int .i64 a4,.slice B5 a5.length d5]) (show w.heap.size + 1 < _ by have:=mK.out; have:=kE.out; have:=dn.out; have:=mM.out; have:=kG.out; have:=dF.out; omega) (by have:=mK.out; have:=kE.out; have:=dn.out; have:=mM.out; have:=kG.out; have:=dF.out; omega) (by decide)) iE.out.gY iD.out.gY (iE.out.apart iD.out (by have:=mK.out; have:=kE.out; have:=dn.out; have:=mM.out; have:=kG.out; have:=dF.out; omega));refine bodyPost_ret (v:=.agg #[.string a0,.slice B1 a1.length d1,.int .i64 a2,.int .i64 a3,.int .i64 a4,.slice B5 a5.length d5]) ?_ rfl ⟨_,F,rfl,ho,hnd,ay S5.out.gK (by omega) _⟩;exact results_cell_row rfl _ _ (w.heap.size + 1) _ _ (0,0) _ rfl (aI bJ) Tryz.underlying32 rfl aV
end pod
namespace lab
open Go.ChangeShapes Go.WideShapes Go.ChangeAt Go.RowKit ty
set_option maxRecDepth 100000 in
set_option maxHeartbeats 8000000 in
theorem Lr (a b : List Label) (f1 f2 : Nat) (v1 v2 : Value) (w : World) (h1 : bf w f1 v1 (.sl 2 a.length (a.flatMap Label.row))) (h2 : bf w f2 v2 (.sl 2 b.length (b.flatMap Label.row))) :
    Calls Tryz.prog 48 #[v1,v2] w fun e w'=>e = .returned (.bool (yes (oO a b))) ∧ ∃ n,w' = w.drewN n:=by
  obtain ⟨A1,c1,rfl,hc1,hm1,f',rfl,hk1⟩:=bD Label.au h1;obtain ⟨A2,c2,rfl,hc2,hm2,f'',rfl,hk2⟩:=bD Label.au h2;unfold maxLen at hm1 hm2;obtain ⟨R,hR⟩ : ∃ R,yes (oO a b) = R:=⟨_,rfl⟩;rw [hR];have Hno : Hid (¬ oO a b → R = false):=fun h=>by rw [← hR]; exact aP h
  have aG : Hid (oO a b → R = true):=fun h=>by rw [← hR]; exact aQ h
  have J2:=Lib.hid hk1;have J3:=Lib.hid hk2;clear h1 h2 hk1 hk2 hR;by_cases hl : a.length = b.length
  case neg=>
    have Hf:=Lib.hid (Hno.out fun h=>hl h.1);have hn : ((a.length : Int) != (b.length : Int)) = true:=bne_iff_ne.2 (by omega);clear hl Hno aG;go_enter Tryz.func48,Tryz.ntmps48;go_wp2_with fail;go_ret;exact ⟨by rw [Hf.out]; rfl,0,rfl⟩
  obtain ⟨n,hn⟩ : ∃ n,n = a.length:=⟨_,rfl⟩;have hb : b.length = n:=(by omega);rw [← hn] at hc1;rw [hb] at hc2;rw [← hn,hb];have Hn:=Lib.hid hn;have Hb:=Lib.hid hb;clear hn hb hl;go_enter Tryz.func48,Tryz.ntmps48;go_wp2_with fail
  go_loopw [5] (fun i wr=>∃ j : Nat,j ≤ n ∧ i = .int .i64 j ∧ Hid (mU a b j) ∧ ∃ n,wr = w.drewN n) (fun i _=>n - (intOf i).toNat)
  case atStart=>exact ⟨0,Nat.zero_le _,rfl,fun i _ _ h=>by omega,0,rfl⟩
  case round=>
    obtain ⟨j,hj,rfl,hall,n0,hwr⟩:=hrel;have Hw : Hid (∃ n,wr = w.drewN n):=⟨n0,hwr⟩;by_cases hlt : j < n
    · have hla : j < a.length:=(by rw [← Hn.out]; exact hlt);have hlb : j < b.length:=(by rw [Hb.out]; exact hlt);obtain ⟨g1,o1,hA1,hg1,Ze,uU,jF,oI⟩:=J2.out.get hla;obtain ⟨g2,o2,hA2,hg2,MH,jD,jG,eZ⟩:=J3.out.get hlb;obtain ⟨rfl,uV⟩:=Label.opened oI;obtain ⟨rfl,dZ⟩:=Label.opened eZ;have q0 : wr.cell? ⟨g1,o1 + j * 2,none⟩ = some (.string a[j].key):=(by rw [hwr]; exact jF 0 _ rfl);have q1 : wr.cell? ⟨g1,o1 + j * 2 + 1,none⟩ = some (.string a[j].value):=(by rw [hwr]; exact jF 1 _ rfl);have r0 : wr.cell? ⟨g2,o2 + j * 2,none⟩ = some (.string b[j].key):=(by rw [hwr]; exact jG 0 _ rfl);have r1 : wr.cell? ⟨g2,o2 + j * 2 + 1,none⟩ = some (.string b[j].value):=(by rw [hwr]; exact jG 1 _ rfl);subst hA1 hA2;by_cases he : a[j].key = b[j].key
      · have hs:=cu he;by_cases he2 : a[j].value = b[j].value
        · have hs2:=cu he2
          have jK : Hid (mU a b (j + 1)):=fun i i1 i2 h=>by
            by_cases e : i = j
            · subst e; exact ⟨he,he2⟩
            · exact hall.out i i1 i2 (by omega)
          clear he he2 Hno aG hall oI eZ uU jD jF jG uV dZ hwr hg1 hg2;generalize a[j].key = x1 at q0 hs;generalize a[j].value = x2 at q1 hs2;generalize b[j].key = y1 at r0 hs;generalize b[j].value = y2 at r1 hs2;go_wp2_with fail
          go_quiet (fail)
          go_wp2_with fail
          go_roundw
          case rel=>exact ⟨j + 1,by omega,by go_num,jK.out,dU Hw.out _⟩
          case measure=>simp [intOf]; omega
        · have Hf:=Lib.hid (Hno.out fun h=>he2 (h.2 j hla hlb hla).2);have hs2:=dH he2;clear he he2 Hno aG hall oI eZ uU jD jF jG uV dZ hwr hg1 hg2;generalize a[j].key = x1 at q0 hs;generalize a[j].value = x2 at q1 hs2;generalize b[j].key = y1 at r0 hs;generalize b[j].value = y2 at r1 hs2;go_wp2_with fail
          go_quiet (fail)
          go_wp2_with fail;go_ret;exact ⟨by rw [Hf.out]; rfl,dU Hw.out _⟩
      · have Hf:=Lib.hid (Hno.out fun h=>he (h.2 j hla hlb hla).1);have hs:=dH he;clear he Hno aG hall oI eZ uU jD jF jG uV dZ hwr hg1 hg2;generalize a[j].key = x1 at q0 hs;generalize a[j].value = x2 at q1;generalize b[j].key = y1 at r0 hs;generalize b[j].value = y2 at r1;go_wp2_with fail
        go_quiet (fail)
        go_wp2_with fail;go_ret;exact ⟨by rw [Hf.out]; rfl,dU Hw.out _⟩
    · obtain rfl : j = n:=(by omega);have Hf : Hid (R = true):=aG.out ⟨by rw [Hb.out,Hn.out],by rw [← Hn.out]; exact hall.out⟩;clear hall hwr;go_wp2_with fail;go_ret;exact ⟨by rw [Hf.out]; rfl,Hw.out⟩
end lab
namespace need
open Go.ChangeShapes Go.WideShapes Go.ChangeAt Go.RowKit ty lab
set_option maxRecDepth 100000 in
set_option maxHeartbeats 16000000 in
theorem Ja (a b : List Need) (f1 f2 : Nat) (v1 v2 : Value) (w : World) (h1 : bf w f1 v1 (.sl 3 a.length (a.flatMap Need.row))) (h2 : bf w f2 v2 (.sl 3 b.length (b.flatMap Need.row))) :
    Calls Tryz.prog 49 #[v1,v2] w fun e w'=>e = .returned (.bool (yes (l8 a b))) ∧ Below w.heap.size w w':=by
  obtain ⟨A1,c1,rfl,hc1,hm1,f',rfl,hk1⟩:=bD Need.au h1;obtain ⟨A2,c2,rfl,hc2,hm2,f'',rfl,hk2⟩:=bD Need.au h2;unfold maxLen at hm1 hm2;obtain ⟨R,hR⟩ : ∃ R,yes (l8 a b) = R:=⟨_,rfl⟩;rw [hR];have Hno : Hid (¬ l8 a b → R = false):=fun h=>by rw [← hR]; exact aP h
  have aG : Hid (l8 a b → R = true):=fun h=>by rw [← hR]; exact aQ h
  have J2:=Lib.hid hk1;have J3:=Lib.hid hk2;clear h1 h2 hk1 hk2 hR;by_cases hl : a.length = b.length
  case neg=>
    have Hf:=Lib.hid (Hno.out fun h=>hl h.1);have hn : ((a.length : Int) != (b.length : Int)) = true:=bne_iff_ne.2 (by omega);clear hl Hno aG;go_enter Tryz.func49,Tryz.ntmps49;go_wp2_with fail;go_ret;exact ⟨by rw [Hf.out]; rfl,Below.refl _ _⟩
  obtain ⟨n,hn⟩ : ∃ n,n = a.length:=⟨_,rfl⟩;have hb : b.length = n:=(by omega);rw [← hn] at hc1;rw [hb] at hc2;rw [← hn,hb];have Hn:=Lib.hid hn;have Hb:=Lib.hid hb;clear hn hb hl;go_enter Tryz.func49,Tryz.ntmps49;go_wp2_with fail
  go_loopw [5] (fun i wr=>∃ j : Nat,j ≤ n ∧ i = .int .i64 j ∧ Hid (mU a b j) ∧ Below w.heap.size w wr) (fun i _=>n - (intOf i).toNat)
  case atStart=>exact ⟨0,Nat.zero_le _,rfl,fun i _ _ h=>by omega,Below.refl _ _⟩
  case round=>
    obtain ⟨j,hj,rfl,hall,hbel⟩:=hrel;have bg:=Lib.hid hbel;by_cases hlt : j < n
    · have hla : j < a.length:=(by rw [← Hn.out]; exact hlt);have hlb : j < b.length:=(by rw [Hb.out]; exact hlt);obtain ⟨g1,o1,A3,d3,rfl,q0,q1,q2,Rh⟩:=rE J2.out hbel hla;obtain ⟨g2,o2,A4,d4,rfl,r0,r1,r2,Ri⟩:=rE J3.out hbel hlb;have H1:=Lib.hid (fun p : ak wr=>pq a[j] b[j] f' f'' _ _ p.v (Rh p) (Ri p));have H2:=Lib.hid (fun p : ak wr=>pq b[j] a[j] f'' f' _ _ p.v (Ri p) (Rh p));have hj0 : (0 : Int) ≤ (j : Int):=(by omega);have hjn : (j : Int) < (n : Int):=(by omega);by_cases he : a[j] = b[j]
      · have jK : Hid (mU a b (j + 1)):=fun i i1 i2 h=>by
          by_cases e : i = j
          · subst e; exact he
          · exact hall.out i i1 i2 (by omega)
        rw [he,sS] at H1 H2;rw [he] at q0 q1 q2;clear he hall Rh Ri Hno aG J2 J3;generalize b[j] = x at q0 q1 q2 r0 r1 r2 H1 H2;clear hla hlb;go_wp2_with fail;refine wp_region_quiet_below (by kernel_rfl) (by kernel_rfl) ?_
        repeat (refine @wpQuiet_step _ _ _ _ _ _ _ ?_; intro K hK; go_simp; first | (refine hK _ ?_; clear hK K) | (apply Exists.intro; refine ⟨fun _=>?_,hK _ ?_⟩; (go_at_call 112; exact Calls.aF (H1.out _)); clear hK K H1))
        repeat (refine @wpQuiet_step _ _ _ _ _ _ _ ?_; intro K hK; go_simp; first | (refine hK _ ?_; clear hK K) | (apply Exists.intro; refine ⟨fun _=>?_,hK _ ?_⟩; (go_at_call 112; exact Calls.aF (H2.out _)); clear hK K H2))
        refine wpQuiet_nil ?_;intro _ hw';obtain ⟨p,rfl⟩:=hw';go_wp2_with fail
        go_roundw
        case rel=>exact ⟨j + 1,by omega,by go_num,jK.out,bg.out.trans (p.h.mono bg.out.size)⟩
        case measure=>simp [intOf]; omega
      · have Hf:=Lib.hid (Hno.out fun h=>he (h.2 j hla hlb hla));cases hb1 : dA a[j] b[j] with
        | true=>
          rw [hb1] at H1;clear he hall Rh Ri Hno aG J2 J3 hb1 H2;generalize a[j] = x at q0 q1 q2 H1;generalize b[j] = y at r0 r1 r2 H1;go_wp2_with fail;refine wp_region_quiet_below (by kernel_rfl) (by kernel_rfl) ?_
          repeat (refine @wpQuiet_step _ _ _ _ _ _ _ ?_; intro K hK; go_simp; first | (refine hK _ ?_; clear hK K) | (apply Exists.intro; refine ⟨fun _=>?_,hK _ ?_⟩; (go_at_call 112; exact Calls.aF (H1.out _)); clear hK K))
          refine wpQuiet_nil ?_;intro _ hw';obtain ⟨p,rfl⟩:=hw';go_wp2_with fail;go_ret;exact ⟨by rw [Hf.out]; rfl,bg.out.trans (p.h.mono bg.out.size)⟩
        | false=>
          have hb2 : dA b[j] a[j] = true:=by
            cases h : dA b[j] a[j] with
            | true=>rfl
            | false=>exact absurd (rD _ _ hb1 h) he
          rw [hb1] at H1;rw [hb2] at H2;clear he hall Rh Ri Hno aG J2 J3 hb1 hb2;generalize a[j] = x at q0 q1 q2 H1 H2;generalize b[j] = y at r0 r1 r2 H1 H2;go_wp2_with fail;refine wp_region_quiet_below (by kernel_rfl) (by kernel_rfl) ?_
          repeat (refine @wpQuiet_step _ _ _ _ _ _ _ ?_; intro K hK; go_simp; first | (refine hK _ ?_; clear hK K) | (apply Exists.intro; refine ⟨fun _=>?_,hK _ ?_⟩; (go_at_call 112; exact Calls.aF (H1.out _)); clear hK K H1))
          repeat (refine @wpQuiet_step _ _ _ _ _ _ _ ?_; intro K hK; go_simp; first | (refine hK _ ?_; clear hK K) | (apply Exists.intro; refine ⟨fun _=>?_,hK _ ?_⟩; (go_at_call 112; exact Calls.aF (H2.out _)); clear hK K H2))
          refine wpQuiet_nil ?_;intro _ hw';obtain ⟨p,rfl⟩:=hw';go_wp2_with fail;go_ret;exact ⟨by rw [Hf.out]; rfl,bg.out.trans (p.h.mono bg.out.size)⟩
    · obtain rfl : j = n:=(by omega);have Hf : Hid (R = true):=aG.out ⟨by rw [Hb.out,Hn.out],by rw [← Hn.out]; exact hall.out⟩;clear hall hbel;go_wp2_with fail;go_ret;exact ⟨by rw [Hf.out]; rfl,bg.out⟩
end need
namespace pod
open Go.ChangeShapes Go.WideShapes Go.ChangeAt Go.RowKit ty lab need
theorem x9 (a b : List Label) (f1 f2 : Nat) (v1 v2 : Value) (w : World) (h1 : bf w f1 v1 (.sl 2 a.length (a.flatMap Label.row))) (h2 : bf w f2 v2 (.sl 2 b.length (b.flatMap Label.row))) :
    Calls Tryz.prog 48 #[v1,v2] w fun e w'=>e = .returned (.bool (yes (a = b))) ∧ Below w.heap.size w w':=by
  have e : yes (a = b) = yes (oO a b):=(by congr 1; exact propext wU.symm);rw [e];exact (Lr a b f1 f2 v1 v2 w h1 h2).mono fun _ _ ⟨he,n,hn⟩=>⟨he,by rw [hn]; exact below_drewN (Below.refl _ _) _⟩
theorem Gw (a b : List Need) (f1 f2 : Nat) (v1 v2 : Value) (w : World) (h1 : bf w f1 v1 (.sl 3 a.length (a.flatMap Need.row))) (h2 : bf w f2 v2 (.sl 3 b.length (b.flatMap Need.row))) :
    Calls Tryz.prog 49 #[v1,v2] w fun e w'=>e = .returned (.bool (yes (a = b))) ∧ Below w.heap.size w w':=by
  have e : yes (a = b) = yes (l8 a b):=(by congr 1; exact propext zH.symm);rw [e];exact Ja a b f1 f2 v1 v2 w h1 h2
end pod
end Go.Proofs.YtcfbkfmkjggcdaaGreatDoor
