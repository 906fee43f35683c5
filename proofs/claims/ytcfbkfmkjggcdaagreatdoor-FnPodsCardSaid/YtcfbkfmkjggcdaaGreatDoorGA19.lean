/- Merged: HostI CofTaintI CompTaint OnceTaint. -/
import Derived.Test.YtcfbkfmkjggcdaaGreatDoorGA15
import Derived.Test.YtcfbkfmkjggcdaaGreatDoorGA2
import Derived.Test.YtcfbkfmkjggcdaaGreatDoorGA16
import Derived.Test.YtcfbkfmkjggcdaaGreatDoorGA18
import Derived.Test.YtcfbkfmkjggcdaaGreatDoorGA17
import Derived.Test.YtcfbkfmkjggcdaaGreatDoorGA5
import Derived.Laws.Cover1
import Derived.Test.YtcfbkfmkjggcdaaGreatDoorGA9
import Derived.Test.YtcfbkfmkjggcdaaGreatDoorGA7
import Derived.Test.YtcfbkfmkjggcdaaGreatDoorGA4
import Derived.Test.YtcfbkfmkjggcdaaGreatDoorGA3
import Derived.Test.YtcfbkfmkjggcdaaGreatDoorGA1
import Derived.Lib.SliceRun
import Derived.Test.YtcfbkfmkjggcdaaGreatDoorShelf
set_option linter.unusedVariables false
namespace Go.Proofs.YtcfbkfmkjggcdaaGreatDoor
namespace pod
open Go.ChangeShapes Go.WideShapes Go.ChangeAt Go.RowKit ty lab need taint
set_option maxRecDepth 100000 in
set_option maxHeartbeats 32000000 in
theorem Ll (x : Host) (f : Nat) (us : List Value) (w : World) (h : aH w f us x.row) (hz : x.wt ≤ 1048576) :
    Calls Tryz.prog 40 #[.agg us.toArray] w fun e w'=>e = .returned (.bool (yes (kU x))) ∧ Below w.heap.size w w':=by
  obtain ⟨R,hR⟩ : ∃ R,yes (kU x) = R:=⟨_,rfl⟩;rw [hR];have Hno : Hid (¬ kU x → R = false):=fun h=>by rw [← hR]; exact aP h
  have aG : Hid (kU x → R = true):=fun h=>by rw [← hR]; exact aQ h
  clear hR;obtain ⟨a0,a1,a2,a3,a4,a5⟩:=x;obtain ⟨A1,c1,A5,c5,rfl,hwf,k1,m1,l1,k5,m5,l5⟩:=Host.opened h;unfold Host.wt at hz;simp only at hz hwf k1 m1 l1 k5 m5 l5;obtain ⟨w1,hw1⟩ : ∃ w1,w1 = w.alloc (.cells #[.string a0,.slice A1 a1.length c1,.int .i64 a2,.int .i64 a3,.int .i64 a4,.slice A5 a5.length c5] 32):=⟨_,rfl⟩;have hb1 : Below w.heap.size w w1:=(by rw [hw1]; exact (Below.refl _ _).alloc (Nat.le_refl _) _);have R1:=Lib.hid (show aC 32 w1 w.heap.size [.string a0,.slice A1 a1.length c1,.int .i64 a2,.int .i64 a3,.int .i64 a4,.slice A5 a5.length c5] by rw [hw1]; exact aC.new _ _ _);have eT:=Lib.hid hw1;have C0:=Lib.hid (fun w' (hb : Below w.heap.size w w')=>Cb a0 w' (by omega));have C1:=Lib.hid (fun w' (hb : Below w.heap.size w w')=>xX a1 f _ w' (l1.below hb) (lQ (by omega)));have C2:=Lib.hid (fun w' (hb : Below w.heap.size w w')=>ug a5 f _ w' (l5.below hb));have HB1:=Lib.hid hb1;clear h hz hwf hb1 hw1 k1 m1 l1 k5 m5 l5;by_cases h0 : nL a0
  case neg=>
    have Hf:=Lib.hid (Hno.out fun h=>h0 h.name);clear Hno aG;rw [aP h0] at C0;clear h0;go_enter Tryz.func40,Tryz.ntmps40;go_wp2_with fail;rw [← eT.out];refine (C0.out _ HB1.out).mono ?_;rintro e y0 ⟨rfl,b0⟩;have bI:=Lib.hid (ah HB1.out b0 HB1.out.size);have bC:=Lib.hid (R1.out.below b0);clear b0;have eF:=bC.out.cell 0 _ rfl;have dM:=bC.out.cell 1 _ rfl;have eG:=bC.out.cell 2 _ rfl;have eH:=bC.out.cell 3 _ rfl;have eO:=bC.out.cell 4 _ rfl;have dL:=bC.out.cell 5 _ rfl;go_wp2_with fail;go_ret;exact ⟨by rw [Hf.out]; rfl,bI.out⟩
  rw [aQ h0] at C0;by_cases h1 : dw a1
  case neg=>
    have Hf:=Lib.hid (Hno.out fun h=>h1 h.labels);clear Hno aG;rw [aP h1] at C1;clear h0 h1;go_enter Tryz.func40,Tryz.ntmps40;go_wp2_with fail;rw [← eT.out];refine (C0.out _ HB1.out).mono ?_;rintro e y0 ⟨rfl,b0⟩;have bI:=Lib.hid (ah HB1.out b0 HB1.out.size);have bC:=Lib.hid (R1.out.below b0);clear b0;have eF:=bC.out.cell 0 _ rfl;have dM:=bC.out.cell 1 _ rfl;have eG:=bC.out.cell 2 _ rfl;have eH:=bC.out.cell 3 _ rfl;have eO:=bC.out.cell 4 _ rfl;have dL:=bC.out.cell 5 _ rfl;go_wp2_with fail;refine (C1.out _ bI.out).mono ?_;rintro e y1 ⟨rfl,b1⟩;have aZ:=Lib.hid (ah bI.out b1 bI.out.size);have bK:=Lib.hid (bC.out.below b1);clear eF dM eG eH eO dL;clear b1;have cB:=bK.out.cell 0 _ rfl;have bZ:=bK.out.cell 1 _ rfl;have cK:=bK.out.cell 2 _ rfl;have cO:=bK.out.cell 3 _ rfl;have cZ:=bK.out.cell 4 _ rfl;have dh:=bK.out.cell 5 _ rfl;go_wp2_with fail;go_ret;exact ⟨by rw [Hf.out]; rfl,aZ.out⟩
  rw [aQ h1] at C1;by_cases h2 : bL a5
  case neg=>
    have Hf:=Lib.hid (Hno.out fun h=>h2 h.bP);clear Hno aG;rw [aP h2] at C2;clear h0 h1 h2;go_enter Tryz.func40,Tryz.ntmps40;go_wp2_with fail;rw [← eT.out];refine (C0.out _ HB1.out).mono ?_;rintro e y0 ⟨rfl,b0⟩;have bI:=Lib.hid (ah HB1.out b0 HB1.out.size);have bC:=Lib.hid (R1.out.below b0);clear b0;have eF:=bC.out.cell 0 _ rfl;have dM:=bC.out.cell 1 _ rfl;have eG:=bC.out.cell 2 _ rfl;have eH:=bC.out.cell 3 _ rfl;have eO:=bC.out.cell 4 _ rfl;have dL:=bC.out.cell 5 _ rfl;go_wp2_with fail;refine (C1.out _ bI.out).mono ?_;rintro e y1 ⟨rfl,b1⟩;have aZ:=Lib.hid (ah bI.out b1 bI.out.size);have bK:=Lib.hid (bC.out.below b1);clear eF dM eG eH eO dL;clear b1;have cB:=bK.out.cell 0 _ rfl;have bZ:=bK.out.cell 1 _ rfl;have cK:=bK.out.cell 2 _ rfl;have cO:=bK.out.cell 3 _ rfl;have cZ:=bK.out.cell 4 _ rfl;have dh:=bK.out.cell 5 _ rfl;go_wp2_with fail;refine (C2.out _ aZ.out).mono ?_;rintro e y2 ⟨rfl,b2⟩;have iL:=Lib.hid (ah aZ.out b2 aZ.out.size);have fG:=Lib.hid (bK.out.below b2);clear cB bZ cK cO cZ dh;clear b2;have qK:=fG.out.cell 0 _ rfl;have oW:=fG.out.cell 1 _ rfl;have qL:=fG.out.cell 2 _ rfl;have qM:=fG.out.cell 3 _ rfl;have qN:=fG.out.cell 4 _ rfl;have qO:=fG.out.cell 5 _ rfl;go_wp2_with fail;go_ret;exact ⟨by rw [Hf.out]; rfl,iL.out⟩
  rw [aQ h2] at C2;by_cases h3 : 0 ≤ a2
  case neg=>
    have Hf:=Lib.hid (Hno.out fun h=>h3 h.cpu);clear Hno aG;have g3:=decide_eq_false h3;clear h0 h1 h2;go_enter Tryz.func40,Tryz.ntmps40;go_wp2_with fail;rw [← eT.out];refine (C0.out _ HB1.out).mono ?_;rintro e y0 ⟨rfl,b0⟩;have bI:=Lib.hid (ah HB1.out b0 HB1.out.size);have bC:=Lib.hid (R1.out.below b0);clear b0;have eF:=bC.out.cell 0 _ rfl;have dM:=bC.out.cell 1 _ rfl;have eG:=bC.out.cell 2 _ rfl;have eH:=bC.out.cell 3 _ rfl;have eO:=bC.out.cell 4 _ rfl;have dL:=bC.out.cell 5 _ rfl;go_wp2_with fail;refine (C1.out _ bI.out).mono ?_;rintro e y1 ⟨rfl,b1⟩;have aZ:=Lib.hid (ah bI.out b1 bI.out.size);have bK:=Lib.hid (bC.out.below b1);clear eF dM eG eH eO dL;clear b1;have cB:=bK.out.cell 0 _ rfl;have bZ:=bK.out.cell 1 _ rfl;have cK:=bK.out.cell 2 _ rfl;have cO:=bK.out.cell 3 _ rfl;have cZ:=bK.out.cell 4 _ rfl;have dh:=bK.out.cell 5 _ rfl;go_wp2_with fail;refine (C2.out _ aZ.out).mono ?_;rintro e y2 ⟨rfl,b2⟩;have iL:=Lib.hid (ah aZ.out b2 aZ.out.size);have fG:=Lib.hid (bK.out.below b2);clear cB bZ cK cO cZ dh;clear b2;have qK:=fG.out.cell 0 _ rfl;have oW:=fG.out.cell 1 _ rfl;have qL:=fG.out.cell 2 _ rfl;have qM:=fG.out.cell 3 _ rfl;have qN:=fG.out.cell 4 _ rfl;have qO:=fG.out.cell 5 _ rfl;go_wp2_with fail;go_ret;exact ⟨by rw [Hf.out]; rfl,iL.out⟩
  have g3:=decide_eq_true h3;by_cases h4 : 0 ≤ a3
  case neg=>
    have Hf:=Lib.hid (Hno.out fun h=>h4 h.mem);clear Hno aG;have g4:=decide_eq_false h4;clear h0 h1 h2;go_enter Tryz.func40,Tryz.ntmps40;go_wp2_with fail;rw [← eT.out];refine (C0.out _ HB1.out).mono ?_;rintro e y0 ⟨rfl,b0⟩;have bI:=Lib.hid (ah HB1.out b0 HB1.out.size);have bC:=Lib.hid (R1.out.below b0);clear b0;have eF:=bC.out.cell 0 _ rfl;have dM:=bC.out.cell 1 _ rfl;have eG:=bC.out.cell 2 _ rfl;have eH:=bC.out.cell 3 _ rfl;have eO:=bC.out.cell 4 _ rfl;have dL:=bC.out.cell 5 _ rfl;go_wp2_with fail;refine (C1.out _ bI.out).mono ?_;rintro e y1 ⟨rfl,b1⟩;have aZ:=Lib.hid (ah bI.out b1 bI.out.size);have bK:=Lib.hid (bC.out.below b1);clear eF dM eG eH eO dL;clear b1;have cB:=bK.out.cell 0 _ rfl;have bZ:=bK.out.cell 1 _ rfl;have cK:=bK.out.cell 2 _ rfl;have cO:=bK.out.cell 3 _ rfl;have cZ:=bK.out.cell 4 _ rfl;have dh:=bK.out.cell 5 _ rfl;go_wp2_with fail;refine (C2.out _ aZ.out).mono ?_;rintro e y2 ⟨rfl,b2⟩;have iL:=Lib.hid (ah aZ.out b2 aZ.out.size);have fG:=Lib.hid (bK.out.below b2);clear cB bZ cK cO cZ dh;clear b2;have qK:=fG.out.cell 0 _ rfl;have oW:=fG.out.cell 1 _ rfl;have qL:=fG.out.cell 2 _ rfl;have qM:=fG.out.cell 3 _ rfl;have qN:=fG.out.cell 4 _ rfl;have qO:=fG.out.cell 5 _ rfl;go_wp2_with fail;go_ret;exact ⟨by rw [Hf.out]; rfl,iL.out⟩
  have g4:=decide_eq_true h4;by_cases h5 : 1 ≤ a4
  case neg=>
    have Hf:=Lib.hid (Hno.out fun h=>h5 h.lo);clear Hno aG;have g5:=decide_eq_false h5;clear h0 h1 h2;go_enter Tryz.func40,Tryz.ntmps40;go_wp2_with fail;rw [← eT.out];refine (C0.out _ HB1.out).mono ?_;rintro e y0 ⟨rfl,b0⟩;have bI:=Lib.hid (ah HB1.out b0 HB1.out.size);have bC:=Lib.hid (R1.out.below b0);clear b0;have eF:=bC.out.cell 0 _ rfl;have dM:=bC.out.cell 1 _ rfl;have eG:=bC.out.cell 2 _ rfl;have eH:=bC.out.cell 3 _ rfl;have eO:=bC.out.cell 4 _ rfl;have dL:=bC.out.cell 5 _ rfl;go_wp2_with fail;refine (C1.out _ bI.out).mono ?_;rintro e y1 ⟨rfl,b1⟩;have aZ:=Lib.hid (ah bI.out b1 bI.out.size);have bK:=Lib.hid (bC.out.below b1);clear eF dM eG eH eO dL;clear b1;have cB:=bK.out.cell 0 _ rfl;have bZ:=bK.out.cell 1 _ rfl;have cK:=bK.out.cell 2 _ rfl;have cO:=bK.out.cell 3 _ rfl;have cZ:=bK.out.cell 4 _ rfl;have dh:=bK.out.cell 5 _ rfl;go_wp2_with fail;refine (C2.out _ aZ.out).mono ?_;rintro e y2 ⟨rfl,b2⟩;have iL:=Lib.hid (ah aZ.out b2 aZ.out.size);have fG:=Lib.hid (bK.out.below b2);clear cB bZ cK cO cZ dh;clear b2;have qK:=fG.out.cell 0 _ rfl;have oW:=fG.out.cell 1 _ rfl;have qL:=fG.out.cell 2 _ rfl;have qM:=fG.out.cell 3 _ rfl;have qN:=fG.out.cell 4 _ rfl;have qO:=fG.out.cell 5 _ rfl;go_wp2_with fail;go_ret;exact ⟨by rw [Hf.out]; rfl,iL.out⟩
  have g5:=decide_eq_true h5;by_cases h6 : a4 ≤ 20
  case neg=>
    have Hf:=Lib.hid (Hno.out fun h=>h6 h.hi);clear Hno aG;have g6:=decide_eq_false h6;clear h0 h1 h2;go_enter Tryz.func40,Tryz.ntmps40;go_wp2_with fail;rw [← eT.out];refine (C0.out _ HB1.out).mono ?_;rintro e y0 ⟨rfl,b0⟩;have bI:=Lib.hid (ah HB1.out b0 HB1.out.size);have bC:=Lib.hid (R1.out.below b0);clear b0;have eF:=bC.out.cell 0 _ rfl;have dM:=bC.out.cell 1 _ rfl;have eG:=bC.out.cell 2 _ rfl;have eH:=bC.out.cell 3 _ rfl;have eO:=bC.out.cell 4 _ rfl;have dL:=bC.out.cell 5 _ rfl;go_wp2_with fail;refine (C1.out _ bI.out).mono ?_;rintro e y1 ⟨rfl,b1⟩;have aZ:=Lib.hid (ah bI.out b1 bI.out.size);have bK:=Lib.hid (bC.out.below b1);clear eF dM eG eH eO dL;clear b1;have cB:=bK.out.cell 0 _ rfl;have bZ:=bK.out.cell 1 _ rfl;have cK:=bK.out.cell 2 _ rfl;have cO:=bK.out.cell 3 _ rfl;have cZ:=bK.out.cell 4 _ rfl;have dh:=bK.out.cell 5 _ rfl;go_wp2_with fail;refine (C2.out _ aZ.out).mono ?_;rintro e y2 ⟨rfl,b2⟩;have iL:=Lib.hid (ah aZ.out b2 aZ.out.size);have fG:=Lib.hid (bK.out.below b2);clear cB bZ cK cO cZ dh;clear b2;have qK:=fG.out.cell 0 _ rfl;have oW:=fG.out.cell 1 _ rfl;have qL:=fG.out.cell 2 _ rfl;have qM:=fG.out.cell 3 _ rfl;have qN:=fG.out.cell 4 _ rfl;have qO:=fG.out.cell 5 _ rfl;go_wp2_with fail;go_ret;exact ⟨by rw [Hf.out]; rfl,iL.out⟩
  have g6:=decide_eq_true h6;have Hf:=Lib.hid (aG.out ⟨h0,h1,h3,h4,h5,h6,h2⟩);clear Hno aG h0 h1 h2;go_enter Tryz.func40,Tryz.ntmps40;go_wp2_with fail;rw [← eT.out];refine (C0.out _ HB1.out).mono ?_;rintro e y0 ⟨rfl,b0⟩;have bI:=Lib.hid (ah HB1.out b0 HB1.out.size);have bC:=Lib.hid (R1.out.below b0);clear b0;have eF:=bC.out.cell 0 _ rfl;have dM:=bC.out.cell 1 _ rfl;have eG:=bC.out.cell 2 _ rfl;have eH:=bC.out.cell 3 _ rfl;have eO:=bC.out.cell 4 _ rfl;have dL:=bC.out.cell 5 _ rfl;go_wp2_with fail;refine (C1.out _ bI.out).mono ?_;rintro e y1 ⟨rfl,b1⟩;have aZ:=Lib.hid (ah bI.out b1 bI.out.size);have bK:=Lib.hid (bC.out.below b1);clear eF dM eG eH eO dL;clear b1;have cB:=bK.out.cell 0 _ rfl;have bZ:=bK.out.cell 1 _ rfl;have cK:=bK.out.cell 2 _ rfl;have cO:=bK.out.cell 3 _ rfl;have cZ:=bK.out.cell 4 _ rfl;have dh:=bK.out.cell 5 _ rfl;go_wp2_with fail;refine (C2.out _ aZ.out).mono ?_;rintro e y2 ⟨rfl,b2⟩;have iL:=Lib.hid (ah aZ.out b2 aZ.out.size);have fG:=Lib.hid (bK.out.below b2);clear cB bZ cK cO cZ dh;clear b2;have qK:=fG.out.cell 0 _ rfl;have oW:=fG.out.cell 1 _ rfl;have qL:=fG.out.cell 2 _ rfl;have qM:=fG.out.cell 3 _ rfl;have qN:=fG.out.cell 4 _ rfl;have qO:=fG.out.cell 5 _ rfl;go_wp2_with fail;go_ret;exact ⟨by rw [Hf.out]; rfl,iL.out⟩
end pod
namespace taint
open Go.ChangeShapes Go.WideShapes Go.ChangeAt Go.RowKit ty
set_option maxRecDepth 100000 in
theorem uo (l : List av) (f : Nat) (v : Value) (w : World) (h : bf w f v (.sl 3 l.length (l.flatMap av.row))) (hn : l.length ≤ 1048576) :
    Calls Tryz.prog 110 #[v] w fun e w'=>∃ g c,e = .returned (.slice (some ⟨g,0,none⟩) l.length c) ∧ w'.ownsRow w.heap.size 72 3 (.slice (some ⟨g,0,none⟩) l.length c) l.length (l.flatMap av.cells) ∧ Below w.heap.size w w':=by
  obtain ⟨A,c,rfl,hc1,hc2,f',rfl,hk⟩:=bD av.au h;unfold maxLen at hc2;have Hr:=Lib.hid (mI hk).1;clear h hk;obtain ⟨i0,hi,hz0,hz1,hz2⟩:=info_parts TryzinfITaint
  have kX : Hid ((w.alloc (.cells #[] 72)).ownsRow w.heap.size 72 3 (.slice (some ⟨w.heap.size,0,none⟩) 0 0) 0 []):=
    World.ownsRow_lit w #[] 0 (Nat.le_refl _) (by simp [maxLen]) rfl
  have Hb:=Lib.hid (fun o=>(Below.refl w.heap.size w).alloc (Nat.le_refl _) o);have hn2:=Lib.hid hn;clear hn;go_enter Tryz.func110,Tryz.ntmps110;go_wp2_with (first | (at_builtin; refine aB rfl (.tmp 3) (.tmp 4) 30 rfl w.heap.size 72 i0 _ 3 40 Tryz.underlying30 hi hz0 hz1 hz2 rfl (by decide) _ 0 [] rfl kX.out A l.length c (l.flatMap av.cells) rfl (Hr.out.below (Hb.out _)) (flt.eP av.cells_one l) (by have:=hn2.out; unfold maxLen; omega) (by have:=hn2.out; omega) (by simp) ?_; intro v1 w1 o1 o2 o3) | fail)
  try rw [Nat.zero_add,List.nil_append] at o1
  have hbel : Below w.heap.size w w1:=(Hb.out _).grown o2 (by simp) (fun q hq=>(kX.out.lt q hq).1)
  obtain ⟨x,hx⟩ : ∃ x,v1.ownBlock = some x:=by
    rcases o3 with e | e
    · exact ⟨_,e.trans rfl⟩
    · exact ⟨_,e⟩
  obtain ⟨c1,rfl,_⟩:=iB o1 hx;have O:=Lib.hid (show ∃ g c,Ending.returned (.slice (some ⟨x,0,none⟩) l.length c1) = .returned (.slice (some ⟨g,0,none⟩) l.length c) ∧ w1.ownsRow w.heap.size 72 3 (.slice (some ⟨g,0,none⟩) l.length c) l.length (l.flatMap av.cells) ∧ Below w.heap.size w w1 from ⟨x,c1,rfl,o1,hbel⟩);clear o1 o2 o3 hx hbel kX Hb Hr;go_wp2_with fail;go_ret;exact O.out
end taint
namespace taint
open Go.ChangeShapes Go.WideShapes Go.ChangeAt Go.RowKit ty lab dedup need
def pG (w : World) (b : Nat) : Prop:=w.cell? ⟨b,0,none⟩ = some (.func (.func 108) #[] #[])
set_option maxRecDepth 100000 in
theorem wB (x y : av) (b : Nat) (w : World) (h : pG w b) :
    Calls Tryz.prog 221 #[.agg #[.string x.key,.string x.value,.int .i64 x.effect],.agg #[.string y.key,.string y.value,.int .i64 y.effect],.pointer (some ⟨b,0,none⟩)] w fun e w'=>e = .returned (.bool (yes (x = y))) ∧ Below w.heap.size w w':=by
  rw [← iK.zero Qj x y];have HB:=Lib.hid (oQ.new 72 w [.string x.key,.string x.value,.int .i64 x.effect] [.string y.key,.string y.value,.int .i64 y.effect]);have HC:=Lib.hid (fun w'=>nk (xD x y w'));have p0:=HB.out.cell1 (j:=0) rfl;have p1:=HB.out.cell1 (j:=1) rfl;have p2:=HB.out.cell1 (j:=2) rfl;have q0:=HB.out.fO (j:=0) rfl;have q1:=HB.out.fO (j:=1) rfl;have q2:=HB.out.fO (j:=2) rfl;have r0:=(HB.out.1.1.cell (World.block_lt_of_cell? _ _ h)).trans h;clear h;generalize zu x y = r at HC ⊢;go_enter Tryz.func221,Tryz.ntmps221;go_wp2_with fail;refine (HC.out _).mono ?_;rintro e x1 ⟨rfl,hb⟩;have G:=Lib.hid (HB.out.1.1.trans (hb.mono HB.out.1.1.size));clear hb;go_wp2_with fail;go_ret;exact ⟨rfl,G.out⟩
def tq (l : List av) (B g c : Nat) (w : World) (e : Ending) (w' : World) : Prop:=
  ∃ d : List av,d = iy id l l.length ∧ e = .returned (.slice (some ⟨g,0,none⟩) d.length c) ∧ w'.ownsRow B 72 3 (.slice (some ⟨g,0,none⟩) d.length c) d.length (d.flatMap av.cells) ∧ w.grownBy w' (some g)
set_option maxRecDepth 100000 in
set_option maxHeartbeats 32000000 in
theorem IX (l : List av) (B g c b : Nat) (w : World) (hown : w.ownsRow B 72 3 (.slice (some ⟨g,0,none⟩) l.length c) l.length (l.flatMap av.cells)) (hn : l.length ≤ 1048576) (hb : pG w b) (hbg : b ≠ g) :
    Calls Tryz.prog 220 #[.slice (some ⟨g,0,none⟩) l.length c,.func (.func 221) #[] #[.pointer (some ⟨b,0,none⟩)]] w fun e w'=>tq l B g c w e w':=by
  have hcc : l.length ≤ c ∧ c ≤ maxLen:=by
    obtain ⟨c',e,h1,h2,_⟩:=iB hown rfl;injection e with _ _ e;subst e;exact ⟨h1,h2⟩
  obtain ⟨hc1,hc2⟩:=hcc;unfold maxLen at hc2;have mq:=(hown.lt g rfl).2;have hblt:=World.block_lt_of_cell? _ _ hb;have dY:=Lib.hid hown;have Hb:=Lib.hid hb;have iT : Hid ((∀ q (h : q + 1 < l.length),l[q + 1] ≠ l[q]) → iy id l l.length = l):=fun h=>D5 (κ:=id) h;clear hown hb;by_cases h2 : l.length < 2
  · have e:=iT.out fun q hq=>by omega
    have hlt2 : (l.length : Int) < 2:=(by omega);have HR:=Lib.hid (show tq l B g c w (.returned (.slice (some ⟨g,0,none⟩) l.length c)) w from ⟨l,e.symm,rfl,dY.out,World.grownBy.refl _ _⟩);clear e iT dY Hb;go_enter Tryz.func220,Tryz.ntmps220;go_wp2_with fail;go_ret;exact HR.out
  have Xc : ¬ (l.length : Int) < 2:=(by omega);go_enter Tryz.func220,Tryz.ntmps220;go_wp2_with fail
  go_loopw [5] (fun i wr=>∃ j : Nat,1 ≤ j ∧ j ≤ l.length ∧ i = .int .i64 j ∧ Hid (∀ q (h : q + 1 < l.length),q + 1 < j → l[q + 1] ≠ l[q]) ∧ Below w.heap.size w wr) (fun i _=>l.length - (intOf i).toNat)
  case atStart=>exact ⟨1,Nat.le_refl _,by omega,rfl,fun q _ hq=>by omega,Below.refl _ _⟩
  case round=>
    obtain ⟨k,hk1,hk,rfl,hall,hbel⟩:=hrel;obtain ⟨m,hm⟩ : ∃ m,m + 1 = k:=⟨k - 1,by omega⟩;by_cases hlt : k < l.length
    · have hml : m < l.length:=(by omega);have hown1:=own_below' dY.out hbel;have hgb : g < wr.heap.size:=Nat.lt_of_lt_of_le mq hbel.size;have YS : ∀ p : ak wr,p.v.cell? ⟨g,k * 3,none⟩ = some (.string l[k].key):=fun p=>p.cell hgb (flt.cell_of av.aD hown1 hlt (i:=0) (by omega) rfl);have YT : ∀ p : ak wr,p.v.cell? ⟨g,k * 3 + 1,none⟩ = some (.string l[k].value):=fun p=>p.cell hgb (flt.cell_of av.aD hown1 hlt (i:=1) (by omega) rfl);have TN : ∀ p : ak wr,p.v.cell? ⟨g,k * 3 + 2,none⟩ = some (.int .i64 l[k].effect):=fun p=>p.cell hgb (flt.cell_of av.aD hown1 hlt (i:=2) (by omega) rfl);have YU : ∀ p : ak wr,p.v.cell? ⟨g,m * 3,none⟩ = some (.string l[m].key):=fun p=>p.cell hgb (flt.cell_of av.aD hown1 hml (i:=0) (by omega) rfl);have q01 : ∀ p : ak wr,p.v.cell? ⟨g,m * 3 + 1,none⟩ = some (.string l[m].value):=fun p=>p.cell hgb (flt.cell_of av.aD hown1 hml (i:=1) (by omega) rfl);have TM : ∀ p : ak wr,p.v.cell? ⟨g,m * 3 + 2,none⟩ = some (.int .i64 l[m].effect):=fun p=>p.cell hgb (flt.cell_of av.aD hown1 hml (i:=2) (by omega) rfl);have HE:=Lib.hid (fun p : ak wr=>wB l[k] l[m] b p.v (p.cell (Nat.lt_of_lt_of_le hblt hbel.size) ((hbel.cell hblt).trans Hb.out)));have yZ : (k : Int) - 1 = (m : Int):=(by omega);have BN : IntKind.i64.wrap (m : Int) = (m : Int):=IntWalk.i64_in _ (by omega);have hm0 : (0 : Int) ≤ (m : Int):=(by omega);have hm1 : (m : Int) < (l.length : Int):=(by omega);have hj0 : (0 : Int) ≤ (k : Int):=(by omega);have hj1 : (k : Int) < (l.length : Int):=(by omega);have bg:=Lib.hid hbel;by_cases he : l[k] = l[m]
      case neg=>
        have Hn : Hid (∀ q (h : q + 1 < l.length),q + 1 < k + 1 → l[q + 1] ≠ l[q]):=fun q h hq=>by
          by_cases e : q = m
          · subst e; subst hm; exact he
          · exact hall.out q h (by omega)
        rw [aP he] at HE;clear he hall hbel hown1 iT hm;generalize Value.string l[k].key = u0 at *;generalize Value.string l[k].value = u1 at *;generalize Value.int .i64 l[k].effect = u2 at *;generalize Value.string l[m].key = v0 at *;generalize Value.string l[m].value = v1 at *;generalize Value.int .i64 l[m].effect = v2 at *;go_wp2_with fail;refine wp_region_quiet_below (by kernel_rfl) (by kernel_rfl) ?_
        repeat (refine @wpQuiet_step _ _ _ _ _ _ _ ?_; intro K hK; go_simp; first | (refine hK _ ?_; clear hK K) | (apply Exists.intro; refine ⟨fun _=>?_,hK _ ?_⟩; (first | (go_at_call 221; exact Calls.aF (HE.out _))); clear hK K))
        refine wpQuiet_nil ?_;intro _ hw';obtain ⟨p,rfl⟩:=hw';go_wp2_with fail
        go_roundw
        case rel=>exact ⟨k + 1,by omega,by omega,by go_num,Hn.out,bg.out.trans (p.h.mono bg.out.size)⟩
        case measure=>simp [intOf]; omega
      rw [aQ he] at HE
      have DC:=Lib.hid (show kR id l (k + 1) k l from by
        subst hm;exact kR.start (κ:=id) hlt (fun q h hq=>hall.out q h hq) he)
      have hown1:=Lib.hid hown1;clear he hall hbel iT hm;generalize Value.string l[k].key = u0 at *;generalize Value.string l[k].value = u1 at *;generalize Value.int .i64 l[k].effect = u2 at *;generalize Value.string l[m].key = v0 at *;generalize Value.string l[m].value = v1 at *;generalize Value.int .i64 l[m].effect = v2 at *;go_wp2_with fail;refine wp_region_quiet_below (by kernel_rfl) (by kernel_rfl) ?_
      repeat (refine @wpQuiet_step _ _ _ _ _ _ _ ?_; intro K hK; go_simp; first | (refine hK _ ?_; clear hK K) | (apply Exists.intro; refine ⟨fun _=>?_,hK _ ?_⟩; (first | (go_at_call 221; exact Calls.aF (HE.out _))); clear hK K))
      refine wpQuiet_nil ?_;intro _ hw';obtain ⟨p,rfl⟩:=hw';have hown2:=Lib.hid (own_below' hown1.out p.h);have jk:=Lib.hid (aR (bg.out.trans (p.h.mono bg.out.size)) (some g));clear YU YS q01 YT TM TN HE yZ BN hm0 hm1;go_wp2_with fail
      go_loopw [5,7] (fun i1 i2 wi=>∃ (kk k2 : Nat) (dk : List av),i1 = .int .i64 kk ∧ i2 = .int .i64 k2 ∧ 1 ≤ k2 ∧ Hid (kR id l (k + k2) kk dk) ∧ wi.ownsRow B 72 3 (.slice (some ⟨g,0,none⟩) l.length c) l.length (dk.flatMap av.cells) ∧ w.grownBy wi (some g)) (fun _ i2 _=>l.length - (k + (intOf i2).toNat))
      case atStart=>exact ⟨k,1,l,rfl,rfl,Nat.le_refl _,DC.out,hown2.out,jk.out⟩
      case round=>
        obtain ⟨kk,k2,dk,rfl,rfl,hk2,hI,hown,hgr⟩:=hrel;have hcl:=hI.out;have Xd:=hcl.lt;have hdl:=hcl.len;have hle:=hcl.le;have hgw : g < wr.heap.size:=Nat.lt_of_lt_of_le mq hgr.size;have hbw : wr.heap[b]? = w.heap[b]?:=hgr.block b hblt (fun e=>hbg (by injection e));have hbw2 : b < wr.heap.size:=Nat.lt_of_lt_of_le hblt hgr.size;have hb2 : pG wr b:=(World.cell?_of_block hbw).trans Hb.out;have dY:=Lib.hid hown;have nI:=Lib.hid hgr;by_cases hlt2 : k + k2 < l.length
        · obtain ⟨m2,hm2⟩ : ∃ m2,m2 + 1 = k2:=⟨k2 - 1,by omega⟩;have hkm : k + m2 < l.length:=(by omega);have ek : dk[k + k2]'(by omega) = l[k + k2]:=hcl.high (k + k2) (by omega) hlt2 (by omega);have em : dk[k + m2]'(by omega) = l[k + m2]:=hcl.high (k + m2) (by omega) hkm (by omega)
          have r10 : ∀ p : ak wr,p.v.cell? ⟨g,k * 3 + k2 * 3,none⟩ = some (.string l[k + k2].key):=fun p=>by
            rw [← Nat.add_mul];exact p.cell hgw (flt.cell_of av.aD hown (j:=k + k2) (by omega) (i:=0) (by omega) (by rw [ek]; rfl))
          have r11 : ∀ p : ak wr,p.v.cell? ⟨g,k * 3 + k2 * 3 + 1,none⟩ = some (.string l[k + k2].value):=fun p=>by
            rw [← Nat.add_mul];exact p.cell hgw (flt.cell_of av.aD hown (j:=k + k2) (by omega) (i:=1) (by omega) (by rw [ek]; rfl))
          have r12 : ∀ p : ak wr,p.v.cell? ⟨g,k * 3 + k2 * 3 + 2,none⟩ = some (.int .i64 l[k + k2].effect):=fun p=>by
            rw [← Nat.add_mul];exact p.cell hgw (flt.cell_of av.aD hown (j:=k + k2) (by omega) (i:=2) (by omega) (by rw [ek]; rfl))
          have r00 : ∀ p : ak wr,p.v.cell? ⟨g,k * 3 + m2 * 3,none⟩ = some (.string l[k + m2].key):=fun p=>by
            rw [← Nat.add_mul];exact p.cell hgw (flt.cell_of av.aD hown (j:=k + m2) (by omega) (i:=0) (by omega) (by rw [em]; rfl))
          have r01 : ∀ p : ak wr,p.v.cell? ⟨g,k * 3 + m2 * 3 + 1,none⟩ = some (.string l[k + m2].value):=fun p=>by
            rw [← Nat.add_mul];exact p.cell hgw (flt.cell_of av.aD hown (j:=k + m2) (by omega) (i:=1) (by omega) (by rw [em]; rfl))
          have r02 : ∀ p : ak wr,p.v.cell? ⟨g,k * 3 + m2 * 3 + 2,none⟩ = some (.int .i64 l[k + m2].effect):=fun p=>by
            rw [← Nat.add_mul];exact p.cell hgw (flt.cell_of av.aD hown (j:=k + m2) (by omega) (i:=2) (by omega) (by rw [em]; rfl))
          have HE:=Lib.hid (fun p : ak wr=>wB l[k + k2] l[k + m2] b p.v (p.cell hbw2 hb2));have i1 : (k2 : Int) - 1 = (m2 : Int):=(by omega);have i2 : IntKind.i64.wrap (m2 : Int) = (m2 : Int):=IntWalk.i64_in _ (by omega);have i3 : (0 : Int) ≤ (m2 : Int):=(by omega);have i4 : (0 : Int) ≤ (k2 : Int):=(by omega);have i5 : k2 < l.length - k:=(by omega);have i6 : m2 < l.length - k:=(by omega);have i7 : (k2 : Int) < ((l.length - k : Nat) : Int):=(by omega);have i8 : (m2 : Int) < ((l.length - k : Nat) : Int):=(by omega);by_cases he2 : l[k + k2] = l[k + m2]
          · have Hn:=Lib.hid (show kR id l (k + (k2 + 1)) kk dk from by
              subst hm2;exact hcl.skip (κ:=id) hlt2 he2)
            rw [aQ he2] at HE;clear he2 hI hown hgr hcl hb2 hbw hm2 hdl hle ek em;generalize Value.string l[k + k2].key = u0 at *;generalize Value.string l[k + k2].value = u1 at *;generalize Value.int .i64 l[k + k2].effect = u2 at *;generalize Value.string l[k + m2].key = v0 at *;generalize Value.string l[k + m2].value = v1 at *;generalize Value.int .i64 l[k + m2].effect = v2 at *;go_wp2_with fail;refine wp_region_quiet_below (by kernel_rfl) (by kernel_rfl) ?_
            repeat (refine @wpQuiet_step _ _ _ _ _ _ _ ?_; intro K hK; go_simp; first | (refine hK _ ?_; clear hK K) | (apply Exists.intro; refine ⟨fun _=>?_,hK _ ?_⟩; (first | (go_at_call 221; exact Calls.aF (HE.out _))); clear hK K))
            refine wpQuiet_nil ?_;intro _ hw';obtain ⟨p2,rfl⟩:=hw';have hown3:=Lib.hid (own_below' dY.out p2.h);have lG:=Lib.hid (aA nI.out (aR p2.h (some g)));go_wp2_with fail
            go_roundw
            case rel=>exact ⟨kk,k2 + 1,dk,rfl,by go_num,by omega,Hn.out,hown3.out,lG.out⟩
            case measure=>simp [intOf]; omega
          · have Hn:=Lib.hid (show kR id l (k + (k2 + 1)) (kk + 1) (dk.set kk l[k + k2]) from by
              subst hm2;exact hcl.keep (κ:=id) hlt2 he2)
            rw [aP he2] at HE;have OC : ∀ p : ak wr,∃ u,p.v.cell? ⟨g,kk * 3,none⟩ = some u ∧ p.v.frozen? ⟨g,kk * 3,none⟩ = false:=fun p=>⟨_,((own_below' hown p.h).cellAt (kk * 3 + 0) (by omega)).trans (List.getElem?_eq_getElem (by rw [aM av.aD]; omega)),(own_below' hown p.h).frozenAt (kk * 3 + 0)⟩;have OD : ∀ p : ak wr,∃ u,p.v.cell? ⟨g,kk * 3 + 1,none⟩ = some u ∧ p.v.frozen? ⟨g,kk * 3 + 1,none⟩ = false:=fun p=>⟨_,((own_below' hown p.h).cellAt (kk * 3 + 1) (by omega)).trans (List.getElem?_eq_getElem (by rw [aM av.aD]; omega)),(own_below' hown p.h).frozenAt (kk * 3 + 1)⟩;have OE : ∀ p : ak wr,∃ u,p.v.cell? ⟨g,kk * 3 + 2,none⟩ = some u ∧ p.v.frozen? ⟨g,kk * 3 + 2,none⟩ = false:=fun p=>⟨_,((own_below' hown p.h).cellAt (kk * 3 + 2) (by omega)).trans (List.getElem?_eq_getElem (by rw [aM av.aD]; omega)),(own_below' hown p.h).frozenAt (kk * 3 + 2)⟩;have hS:=fun p : ak wr=>iq [.string l[k + k2].key,.string l[k + k2].value,.int .i64 l[k + k2].effect] _ (kk * 3) p.v (own_below' hown p.h);rw [show pO (dk.flatMap av.cells) (kk * 3) [.string l[k + k2].key,.string l[k + k2].value,.int .i64 l[k + k2].effect] = (dk.set kk l[k + k2]).flatMap av.cells from flt.Ey av.aD dk kk l[k + k2] (by omega)] at hS;have hS:=Lib.hid hS;have hkn : kk < l.length:=(by omega);have j1 : (kk : Int) < (l.length : Int):=(by omega);have j2 : (0 : Int) ≤ (kk : Int):=(by omega);clear he2 hI hown hgr hcl hb2 hbw hm2 hdl hle ek em;generalize l[k + k2] = x2 at r10 r11 r12 HE Hn hS;generalize l[k + m2] = y2 at r00 r01 r02 HE;go_wp2_with fail;refine wp_region_quiet_below (by kernel_rfl) (by kernel_rfl) ?_
            repeat (refine @wpQuiet_step _ _ _ _ _ _ _ ?_; intro K hK; go_simp; first | (refine hK _ ?_; clear hK K) | (apply Exists.intro; refine ⟨fun _=>?_,hK _ ?_⟩; (first | (go_at_call 221; exact Calls.aF (HE.out _))); clear hK K))
            refine wpQuiet_nil ?_;intro _ hw';obtain ⟨p2,rfl⟩:=hw';obtain ⟨z0,hz0,hf0⟩:=OC p2;obtain ⟨z1,hz1,hf1⟩:=OD p2;obtain ⟨z2,hz2,hf2⟩:=OE p2;have hown3:=Lib.hid (hS.out p2).1;have lG:=Lib.hid (aA nI.out (aA (aR p2.h (some g)) (hS.out p2).2));clear OC OD OE hS;go_wp2_with fail
            go_roundw
            case rel=>exact ⟨kk + 1,k2 + 1,_,by go_num,by go_num,by omega,Hn.out,hown3.out,lG.out⟩
            case measure=>simp [intOf]; omega
        · have hend : k + k2 = l.length:=(by omega);have e1:=hcl.KO;have e2:=hcl.out;rw [hend] at e1 e2;have hkk : kk < l.length:=(by omega);obtain ⟨zs,hzs⟩ : ∃ zs,zs = (Builtin.zeroCells (Value.agg #[.string ⟨#[]⟩,.string ⟨#[]⟩,.int .i64 0]).cells (l.length - kk)).toList:=⟨_,rfl⟩
          have Xe : ∀ ty,(Builtin.clear_ #[30] ty #[.slice (some ⟨g,kk * 3,none⟩) (l.length - kk) (c - kk)]).run Tryz.prog wr = .ok (.tuple #[]) (wr.setCells g (kk * 3) zs):=
            fun ty=>by
              rw [hzs]
              exact qW wr _ _ ty _ Tryz.underlying30 Tryz.zeroValue72 (by decide) g (kk * 3) _ _ (by omega) (by decide) (fun j hj=>by
                have hz : (Value.agg #[.string ⟨#[]⟩,.string ⟨#[]⟩,.int .i64 0]).cells.size = 3:=(by decide);rw [hz] at hj;rw [hown.cellAt (kk * 3 + j) (by omega),List.getElem?_eq_getElem (by rw [aM av.aD]; omega)]; rfl) (fun j hj=>hown.frozenAt (kk * 3 + j))
          obtain ⟨hs1,hs2⟩:=iq zs _ (kk * 3) wr hown;have hs3:=uH hs1 (show kk ≤ l.length by omega);rw [qX _ _ _ _ (Nat.le_refl _),flt.kV av.aD dk kk,e2] at hs3;have HR:=Lib.hid (show tq l B g c w (.returned (.slice (some ⟨g,0,none⟩) kk c)) (wr.setCells g (kk * 3) zs) from ⟨_,rfl,by rw [e1],by rw [e1]; exact hs3,aA hgr hs2⟩);have j0 : ¬ k2 < l.length - k:=(by omega);have j1 : (kk : Int) ≤ (l.length : Int):=(by omega);have j2 : (0 : Int) ≤ (kk : Int):=(by omega);have j3 : ¬ c = kk:=(by omega);have j4 : kk ≤ c:=(by omega);clear hI hown hgr hcl hb2 hbw hdl hle e1 e2 hs1 hs2 hs3 nI dY hzs;go_wp2_with fail;go_ret;exact HR.out
    · have hkl : k = l.length:=(by omega);clear hm;subst hkl;have e:=iT.out fun q hq=>hall.out q hq (by omega);have HR:=Lib.hid (show tq l B g c w (.returned (.slice (some ⟨g,0,none⟩) l.length c)) wr from ⟨l,e.symm,rfl,own_below' dY.out hbel,aR hbel _⟩);clear e iT hall hbel dY Hb;go_wp2_with fail;go_ret;exact HR.out
end taint
namespace taint
open Go.ChangeShapes Go.WideShapes Go.ChangeAt Go.RowKit ty lab dedup need
open Go.Sort (SWO PermIn SortedIn grow)
set_option maxRecDepth 100000 in
theorem IY (l : List av) (B g c : Nat) (w : World) (hown : w.ownsRow B 72 3 (.slice (some ⟨g,0,none⟩) l.length c) l.length (l.flatMap av.cells)) (hn : l.length ≤ 1048576) :
    Calls Tryz.prog 219 #[.slice (some ⟨g,0,none⟩) l.length c,.func (.func 108) #[] #[]] w fun e w'=>e = .returned (.tuple #[]) ∧
      ∃ d : List av,List.Perm d l ∧ d.Pairwise (fun a b=>bA b a = false) ∧ w'.ownsRow B 72 3 (.slice (some ⟨g,0,none⟩) d.length c) d.length (d.flatMap av.cells) ∧ w.grownBy w' (some g):=by
  by_cases h0 : l = []
  · subst h0;refine (AnyF.slices_SortFunc_none Tryz.sortTaint (some ⟨g,0,none⟩) c _ w).mono ?_;rintro e w' ⟨rfl,rfl⟩;exact ⟨rfl,[],List.Perm.refl _,List.Pairwise.nil,hown,World.grownBy.refl _ _⟩
  have eg : ∀ args w,(callFunc 108 args).run Tryz.prog w = .ok (.enter 108 args) w:=enters_of Tryz.func108 (by kernel_rfl) rfl;have hcon:=AnyQ.slices_SortFunc Tryz.sortTaint 3 Tryz.isAgg72 Tryz.sizeOf72 av.cells av.aD av.cells_one zu (iK.swo Qj ER) 108 #[] g 0 c l.toArray w eg (fun m os dk hs x y=>xD x y _) (qj (enc:=av.cells) (k:=3) av.aD hown) (hown.lt g rfl).2 (by simp; omega);have hs : l.toArray.size = l.length:=(by simp);rw [hs] at hcon;refine hcon.mono ?_;rintro e w' ⟨rfl,d',n,os,hp,hso,rfl⟩;obtain ⟨hsz,_,hperm⟩:=hp;rw [← hs,Array.extract_size] at hperm;have e2 : d'.extract 0 l.toArray.size = d':=(by rw [← hsz]; exact Array.extract_size);rw [e2] at hperm;have hl : d'.toList.length = l.length:=(by rw [Array.length_toList,hsz,hs]);refine ⟨rfl,d'.toList,by simpa using hperm,?_,?_,gy _ _⟩
  · rw [List.pairwise_iff_getElem];intro i j hi hj hij;have h1:=hso i j (Nat.zero_le _) hij (by omega);have hi' : i < d'.size:=(by simpa using hi);have hj' : j < d'.size:=(by simpa using hj);rw [getElem!_pos d' i hi',getElem!_pos d' j hj',iK.YM Qj ER] at h1;exact h1
  · have:=oo (n:=n) (os:=os) (enc:=av.cells) av.aD hl hown;rw [hl] at this ⊢;exact this
def CS (l : List av) (B g c : Nat) (w : World) (e : Ending) (w' : World) : Prop:=
  e = .returned (.slice (some ⟨g,0,none⟩) (aU bA l).length c) ∧ w'.ownsRow B 72 3 (.slice (some ⟨g,0,none⟩) (aU bA l).length c) (aU bA l).length ((aU bA l).flatMap av.cells) ∧ w.grownBy w' (some g)
set_option maxRecDepth 100000 in
set_option maxHeartbeats 8000000 in
theorem IZ (l : List av) (B g c : Nat) (w : World) (hown : w.ownsRow B 72 3 (.slice (some ⟨g,0,none⟩) l.length c) l.length (l.flatMap av.cells)) (hn : l.length ≤ 1048576) :
    Calls Tryz.prog 181 #[.slice (some ⟨g,0,none⟩) l.length c,.func (.func 108) #[] #[]] w fun e w'=>CS l B g c w e w':=by
  have mq:=(hown.lt g rfl).2;obtain ⟨W,hW⟩ : ∃ W,W = w.alloc (.cells #[.func (.func 108) #[] #[]] 132):=⟨_,rfl⟩;have hbW : Below w.heap.size w W:=(by rw [hW]; exact (Below.refl _ _).alloc (Nat.le_refl _) _)
  have hcW : pG W w.heap.size:=by
    unfold pG;rw [hW,cell_of_row _ _ _ _ _ _ (heap_alloc_new w _)];rfl
  have HS:=Lib.hid (IY l B g c W (own_below' hown hbW) hn);have c0 : W.cell? ⟨w.heap.size,0,none⟩ = some (.func (.func 108) #[] #[]):=hcW;have Hc:=Lib.hid hcW;have Hb:=Lib.hid hbW;have HW:=Lib.hid hW;clear hown hbW hcW hW;go_enter Tryz.func181,Tryz.ntmps181;go_wp2_with fail;rw [← HW.out];go_wp2_with fail;refine HS.out.mono ?_;rintro e w2 ⟨rfl,d,hp,hpw,hown2,jk⟩;have hbg : w.heap.size ≠ g:=(by omega);have hblt:=World.block_lt_of_cell? _ _ Hc.out;have hc2 : pG w2 w.heap.size:=(World.cell?_of_block (jk.block w.heap.size hblt (fun e=>hbg (by injection e)))).trans Hc.out;have hl:=hp.length_eq;have HC:=Lib.hid (IX d B g c w.heap.size w2 hown2 (by omega) hc2 hbg);rw [hl] at HC;have nI:=Lib.hid (aA (aR Hb.out (some g)) jk);have TY:=Lib.hid (vR ER hp hpw);clear hp hpw hown2 jk hc2 hl c0;go_wp2_with fail;refine HC.out.mono ?_;rintro e w3 ⟨d2,hd2,rfl,hown3,lG⟩;have hd3 : d2 = aU bA l:=hd2.trans TY.out;subst hd3;have HR:=Lib.hid (show CS l B g c w (.returned (.slice (some ⟨g,0,none⟩) (aU bA l).length c)) w3 from ⟨rfl,hown3,aA nI.out lG⟩);clear hd2 hown3 lG;go_wp2_with fail;go_ret;exact HR.out
end taint
end Go.Proofs.YtcfbkfmkjggcdaaGreatDoor
