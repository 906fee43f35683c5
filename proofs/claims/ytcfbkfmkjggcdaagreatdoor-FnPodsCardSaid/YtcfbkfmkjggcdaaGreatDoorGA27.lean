/- Merged: AscTolerance OksToleranceI PodI OwPodC PartR OgC. -/
import Derived.Test.YtcfbkfmkjggcdaaGreatDoorGA13
import Derived.Test.YtcfbkfmkjggcdaaGreatDoorGA1
import Derived.Test.YtcfbkfmkjggcdaaGreatDoorGA3
import Derived.Laws.Cover1
import Derived.Test.YtcfbkfmkjggcdaaGreatDoorGA9
import Derived.Test.YtcfbkfmkjggcdaaGreatDoorGA17
import Derived.Test.YtcfbkfmkjggcdaaGreatDoorCmpOI
import Derived.Test.YtcfbkfmkjggcdaaGreatDoorGA6
import Derived.Test.YtcfbkfmkjggcdaaGreatDoorGA15
import Derived.Test.YtcfbkfmkjggcdaaGreatDoorGA2
import Derived.Test.YtcfbkfmkjggcdaaGreatDoorGA16
import Derived.Test.YtcfbkfmkjggcdaaGreatDoorGA5
import Derived.Test.YtcfbkfmkjggcdaaGreatDoorGA14
import Derived.Test.YtcfbkfmkjggcdaaGreatDoorOwnC
set_option linter.unusedVariables false
namespace Go.Proofs.YtcfbkfmkjggcdaaGreatDoor
namespace taint
open Go.ChangeShapes Go.WideShapes Go.ChangeAt Go.RowKit ty lab dedup need
set_option maxRecDepth 100000 in
set_option maxHeartbeats 16000000 in
theorem vT (l : List aj) (f : Nat) (v : Value) (w : World) (h : bf w f v (.sl 4 l.length (l.flatMap aj.row))) :
    Calls Tryz.prog 178 #[v,.func (.func 179) #[] #[],.func (.func 103) #[] #[]] w fun e w'=>e = .returned (.bool (yes (fE qF bU l l.length))) ∧ Below w.heap.size w w':=by
  obtain ⟨A,c,rfl,hc1,hc2,f',rfl,hk⟩:=bD aj.au h;unfold maxLen at hc2;obtain ⟨R,hR⟩ : ∃ R,yes (fE qF bU l l.length) = R:=⟨_,rfl⟩;rw [hR];have Hno : Hid (¬ fE qF bU l l.length → R = false):=fun h=>by rw [← hR]; exact aP h
  have aG : Hid (fE qF bU l l.length → R = true):=fun h=>by rw [← hR]; exact aQ h
  have Hk:=Lib.hid hk;clear h hk hR;go_enter Tryz.func178,Tryz.ntmps178;go_wp2_with fail
  go_loopw [11] (fun i wr=>∃ j : Nat,j ≤ l.length ∧ i = .int .i64 j ∧ Hid (fE qF bU l j) ∧ Below w.heap.size w wr) (fun i _=>l.length - (intOf i).toNat)
  case atStart=>exact ⟨0,Nat.zero_le _,rfl,fun i hi hj=>by omega,Below.refl _ _⟩
  case round=>
    obtain ⟨j,hj,rfl,hgood,hbel⟩:=hrel;have bg:=Lib.hid hbel;by_cases hlt : j < l.length
    · obtain ⟨g,o,rfl,hg,us,kN,hc,hls⟩:=(Hk.out.below hbel).get hlt;obtain ⟨rfl,hwf⟩:=aj.opened hls;have q0 : wr.cell? ⟨g,o + j * 4,none⟩ = some (.string l[j].key):=hc 0 _ rfl;have q1 : wr.cell? ⟨g,o + j * 4 + 1,none⟩ = some (.bool l[j].equal):=hc 1 _ rfl;have q2 : wr.cell? ⟨g,o + j * 4 + 2,none⟩ = some (.string l[j].value):=hc 2 _ rfl;have q3 : wr.cell? ⟨g,o + j * 4 + 3,none⟩ = some (.int .i64 l[j].effect):=hc 3 _ rfl;obtain ⟨X,hX⟩ : ∃ X,X = wr.alloc (.cells #[.string l[j].key,.bool l[j].equal,.string l[j].value,.int .i64 l[j].effect] 86):=⟨_,rfl⟩;have HB:=Lib.hid (AU.new 86 wr [.string l[j].key,.bool l[j].equal,.string l[j].value,.int .i64 l[j].effect]);have hbX : Below wr.heap.size wr X:=(by rw [hX]; exact HB.out.1);have HN:=Lib.hid (fun p : ak X=>N9 l[j] p.v hwf);have HW2 : Hid (∀ p : ak X,Below w.heap.size w p.v):=fun p=>ah hbel (hbX.trans (p.h.mono hbX.size)) hbel.size;have B0 : ∀ p : ak X,p.v.cell? ⟨wr.heap.size,0,none⟩ = some (.string l[j].key):=fun p=>p.cell (by rw [hX]; simp) (by rw [hX]; exact HB.out.cell (j:=0) rfl);have B1 : ∀ p : ak X,p.v.cell? ⟨wr.heap.size,1,none⟩ = some (.bool l[j].equal):=fun p=>p.cell (by rw [hX]; simp) (by rw [hX]; exact HB.out.cell (j:=1) rfl);have B2 : ∀ p : ak X,p.v.cell? ⟨wr.heap.size,2,none⟩ = some (.string l[j].value):=fun p=>p.cell (by rw [hX]; simp) (by rw [hX]; exact HB.out.cell (j:=2) rfl);have B3 : ∀ p : ak X,p.v.cell? ⟨wr.heap.size,3,none⟩ = some (.int .i64 l[j].effect):=fun p=>p.cell (by rw [hX]; simp) (by rw [hX]; exact HB.out.cell (j:=3) rfl);have HX:=Lib.hid hX;have hj0 : (0 : Int) ≤ (j : Int):=(by omega);have hjn : (j : Int) < (l.length : Int):=(by omega);by_cases hP : qF l[j]
      case neg=>
        have Hf:=Lib.hid (Hno.out fun h2=>hP (h2 j hlt hlt).1);rw [aP hP] at HN;clear hP Hno aG hgood hls kN hc hg hwf Hk hbel hbX hX HB;generalize l[j] = x at *;go_wp2_with fail;rw [← HX.out];refine wp_region_quiet_below (by kernel_rfl) (by kernel_rfl) ?_
        repeat (refine @wpQuiet_step _ _ _ _ _ _ _ ?_; intro K hK; go_simp; first | (refine hK _ ?_; clear hK K) | (apply Exists.intro; refine ⟨fun _=>?_,hK _ ?_⟩; (first | (go_at_call 179; exact Calls.aF (HN.out _))); clear hK K))
        refine wpQuiet_nil ?_;intro _ hw';obtain ⟨p,rfl⟩:=hw';go_wp2_with fail;go_ret;exact ⟨by rw [Hf.out]; rfl,HW2.out p⟩
      rw [aQ hP] at HN;by_cases hz : j = 0
      · have Hg:=Lib.hid (fM hgood.out hlt hP (fun m hm=>by omega));have hn0 : ¬ (0 : Int) < (j : Int):=(by omega);have hn1 : ¬ 0 < j:=(by omega);clear hP Hno aG hgood hls kN hc hg hwf Hk hz hbel hbX hX HB;generalize l[j] = x at *;go_wp2_with fail;rw [← HX.out];refine wp_region_quiet_below (by kernel_rfl) (by kernel_rfl) ?_
        repeat (refine @wpQuiet_step _ _ _ _ _ _ _ ?_; intro K hK; go_simp; first | (refine hK _ ?_; clear hK K) | (apply Exists.intro; refine ⟨fun _=>?_,hK _ ?_⟩; (first | (go_at_call 179; exact Calls.aF (HN.out _))); clear hK K))
        refine wpQuiet_nil ?_;intro _ hw';obtain ⟨p,rfl⟩:=hw';go_wp2_with fail
        go_roundw
        case rel=>exact ⟨j + 1,by omega,by go_num,Hg.out,HW2.out p⟩
        case measure=>simp [intOf]; omega
      obtain ⟨m,hm⟩ : ∃ m,m + 1 = j:=⟨j - 1,by omega⟩;have hml : m < l.length:=(by omega);obtain ⟨g',o',hA3,hg2,MH,jD,hc2',eZ⟩:=(Hk.out.below hbel).get hml;injection hA3 with hA3;injection hA3 with e1 e2;subst e1 e2;obtain ⟨rfl,_⟩:=aj.opened eZ;have HC:=Lib.hid (fun p : ak X=>nk (xC l[m] l[j] p.v));have R0 : ∀ p : ak X,p.v.cell? ⟨g,o + m * 4,none⟩ = some (.string l[m].key):=fun p=>(World.cell?_of_block ((hbX.trans (p.h.mono hbX.size)).block g hg)).trans (hc2' 0 _ rfl);have R1 : ∀ p : ak X,p.v.cell? ⟨g,o + m * 4 + 1,none⟩ = some (.bool l[m].equal):=fun p=>(World.cell?_of_block ((hbX.trans (p.h.mono hbX.size)).block g hg)).trans (hc2' 1 _ rfl);have R2 : ∀ p : ak X,p.v.cell? ⟨g,o + m * 4 + 2,none⟩ = some (.string l[m].value):=fun p=>(World.cell?_of_block ((hbX.trans (p.h.mono hbX.size)).block g hg)).trans (hc2' 2 _ rfl);have R3 : ∀ p : ak X,p.v.cell? ⟨g,o + m * 4 + 3,none⟩ = some (.int .i64 l[m].effect):=fun p=>(World.cell?_of_block ((hbX.trans (p.h.mono hbX.size)).block g hg)).trans (hc2' 3 _ rfl);have yZ : (j : Int) - 1 = (m : Int):=(by omega);have BN : IntKind.i64.wrap (m : Int) = (m : Int):=IntWalk.i64_in _ (by omega);have hm0 : (0 : Int) ≤ (m : Int):=(by omega);have hm1 : (m : Int) < (l.length : Int):=(by omega);have hjp : (0 : Int) < (j : Int):=(by omega);have Dw : 0 < j:=(by omega);have hb:=iK.less Qk ES l[m] l[j];by_cases hr : zw l[m] l[j] < 0
      · rw [decide_eq_true hr] at hb
        have Hg:=Lib.hid (fM hgood.out hlt hP (fun m' hm'=>by
                                                                          obtain rfl : m' = m:=(by omega);exact hb.symm))
        have hr0 : ¬ (0 : Int) ≤ zw l[m] l[j]:=(by omega);clear hP Hno aG hgood hls kN hc hg hwf eZ jD hc2' hg2 Hk hz hm hb hbel hbX hX HB;generalize zw l[m] l[j] = r at HC hr0 hr;generalize l[j] = x at *;generalize l[m] = y at *;go_wp2_with fail;rw [← HX.out];refine wp_region_quiet_below (by kernel_rfl) (by kernel_rfl) ?_
        repeat (refine @wpQuiet_step _ _ _ _ _ _ _ ?_; intro K hK; go_simp; first | (refine hK _ ?_; clear hK K) | (apply Exists.intro; refine ⟨fun _=>?_,hK _ ?_⟩; (first | (go_at_call 179; exact Calls.aF (HN.out _)) | (go_at_call 103; exact Calls.aF (HC.out _))); clear hK K))
        refine wpQuiet_nil ?_;intro _ hw';obtain ⟨p,rfl⟩:=hw';go_wp2_with fail
        go_roundw
        case rel=>exact ⟨j + 1,by omega,by go_num,Hg.out,HW2.out p⟩
        case measure=>simp [intOf]; omega
      · rw [decide_eq_false hr] at hb
        have Hf:=Lib.hid (Hno.out fun h2=>by
          have:=(h2 j hlt hlt).2 m hm;rw [← hb] at this; cases this)
        have hr0 : (0 : Int) ≤ zw l[m] l[j]:=(by omega);clear hP Hno aG hgood hls kN hc hg hwf eZ jD hc2' hg2 Hk hz hm hb hbel hbX hX HB;generalize zw l[m] l[j] = r at HC hr0 hr;generalize l[j] = x at *;generalize l[m] = y at *;go_wp2_with fail;rw [← HX.out];refine wp_region_quiet_below (by kernel_rfl) (by kernel_rfl) ?_
        repeat (refine @wpQuiet_step _ _ _ _ _ _ _ ?_; intro K hK; go_simp; first | (refine hK _ ?_; clear hK K) | (apply Exists.intro; refine ⟨fun _=>?_,hK _ ?_⟩; (first | (go_at_call 179; exact Calls.aF (HN.out _)) | (go_at_call 103; exact Calls.aF (HC.out _))); clear hK K))
        refine wpQuiet_nil ?_;intro _ hw';obtain ⟨p,rfl⟩:=hw';go_wp2_with fail;go_ret;exact ⟨by rw [Hf.out]; rfl,HW2.out p⟩
    · obtain rfl : j = l.length:=(by omega);have Hf:=Lib.hid (aG.out hgood.out);clear hgood hbel;go_wp2_with fail;go_ret;exact ⟨by rw [Hf.out]; rfl,bg.out⟩
end taint
namespace taint
open Go.ChangeShapes Go.WideShapes Go.ChangeAt Go.RowKit ty lab dedup need
set_option maxRecDepth 100000 in
set_option maxHeartbeats 4000000 in
theorem oh (l : List aj) (f : Nat) (v : Value) (w : World) (h : bf w f v (.sl 4 l.length (l.flatMap aj.row))) :
    Calls Tryz.prog 104 #[v] w fun e w'=>e = .returned (.bool (yes (dN l))) ∧ Below w.heap.size w w':=by
  have HA:=Lib.hid (vT l f v w h);obtain ⟨A,c,rfl,hc1,hc2,_⟩:=bD aj.au h;unfold maxLen at hc2;by_cases h4 : 4 < l.length
  · have Hf:=Lib.hid (aP (p:=dN l) (fun h=>by have:=h.1; omega));clear h HA;go_enter Tryz.func104,Tryz.ntmps104;go_wp2_with fail;go_ret;exact ⟨by rw [Hf.out]; rfl,Below.refl _ _⟩
  have He : Hid (yes (dN l) = yes (fE qF bU l l.length)):=by
    unfold Hid
    congr 1
    exact propext ⟨fun h=>h.2,fun h=>⟨by omega,h⟩⟩
  rw [He.out];clear He h;generalize yes (fE qF bU l l.length) = R at HA ⊢;go_enter Tryz.func104,Tryz.ntmps104;go_wp2_with fail;refine HA.out.mono ?_;rintro e w1 ⟨rfl,hb⟩;go_wp2_with fail;go_ret;exact ⟨rfl,hb⟩
end taint
namespace pod
open Go.ChangeShapes Go.WideShapes Go.ChangeAt Go.RowKit ty lab need taint
set_option maxRecDepth 100000 in
set_option maxHeartbeats 32000000 in
theorem Od (x : Pod) (f : Nat) (us : List Value) (w : World) (h : aH w f us x.row) (hz : x.wt ≤ 1048576) :
    Calls Tryz.prog 37 #[.agg us.toArray] w fun e w'=>e = .returned (.bool (yes (qG x))) ∧ Below w.heap.size w w':=by
  obtain ⟨R,hR⟩ : ∃ R,yes (qG x) = R:=⟨_,rfl⟩;rw [hR];have Hno : Hid (¬ qG x → R = false):=fun h=>by rw [← hR]; exact aP h
  have aG : Hid (qG x → R = true):=fun h=>by rw [← hR]; exact aQ h
  clear hR;obtain ⟨a0,a1,a2,a3,a4,a5,a6⟩:=x;obtain ⟨A1,c1,A5,c5,A6,c6,rfl,hwf,k1,m1,l1,k5,m5,l5,k6,m6,l6⟩:=Pod.opened h;unfold Pod.wt at hz;simp only at hz hwf k1 m1 l1 k5 m5 l5 k6 m6 l6;obtain ⟨w1,hw1⟩ : ∃ w1,w1 = w.alloc (.cells #[.string a0,.slice A1 a1.length c1,.int .i64 a2,.int .i64 a3,.int .i64 a4,.slice A5 a5.length c5,.slice A6 a6.length c6] 28):=⟨_,rfl⟩;have hb1 : Below w.heap.size w w1:=(by rw [hw1]; exact (Below.refl _ _).alloc (Nat.le_refl _) _);have R1:=Lib.hid (show aC 28 w1 w.heap.size [.string a0,.slice A1 a1.length c1,.int .i64 a2,.int .i64 a3,.int .i64 a4,.slice A5 a5.length c5,.slice A6 a6.length c6] by rw [hw1]; exact aC.new _ _ _);have eT:=Lib.hid hw1;have C0:=Lib.hid (fun w' (hb : Below w.heap.size w w')=>Cb a0 w' (by omega));have C1:=Lib.hid (fun w' (hb : Below w.heap.size w w')=>xX a1 f _ w' (l1.below hb) (lQ (by omega)));have C2:=Lib.hid (fun w' (hb : Below w.heap.size w w')=>Gf a5 f _ w' (l5.below hb) (by omega));have C3:=Lib.hid (fun w' (hb : Below w.heap.size w w')=>oh a6 f _ w' (l6.below hb));have HB1:=Lib.hid hb1;clear h hz hwf hb1 hw1 k1 m1 l1 k5 m5 l5 k6 m6 l6;by_cases h0 : nL a0
  case neg=>
    have Hf:=Lib.hid (Hno.out fun h=>h0 h.name);clear Hno aG;rw [aP h0] at C0;clear h0;go_enter Tryz.func37,Tryz.ntmps37;go_wp2_with fail;rw [← eT.out];refine (C0.out _ HB1.out).mono ?_;rintro e y0 ⟨rfl,b0⟩;have bI:=Lib.hid (ah HB1.out b0 HB1.out.size);have bC:=Lib.hid (R1.out.below b0);clear b0;have eF:=bC.out.cell 0 _ rfl;have dM:=bC.out.cell 1 _ rfl;have eG:=bC.out.cell 2 _ rfl;have eH:=bC.out.cell 3 _ rfl;have eO:=bC.out.cell 4 _ rfl;have dL:=bC.out.cell 5 _ rfl;have iO:=bC.out.cell 6 _ rfl;go_wp2_with fail;go_ret;exact ⟨by rw [Hf.out]; rfl,bI.out⟩
  rw [aQ h0] at C0;by_cases h1 : dw a1
  case neg=>
    have Hf:=Lib.hid (Hno.out fun h=>h1 h.labels);clear Hno aG;rw [aP h1] at C1;clear h0 h1;go_enter Tryz.func37,Tryz.ntmps37;go_wp2_with fail;rw [← eT.out];refine (C0.out _ HB1.out).mono ?_;rintro e y0 ⟨rfl,b0⟩;have bI:=Lib.hid (ah HB1.out b0 HB1.out.size);have bC:=Lib.hid (R1.out.below b0);clear b0;have eF:=bC.out.cell 0 _ rfl;have dM:=bC.out.cell 1 _ rfl;have eG:=bC.out.cell 2 _ rfl;have eH:=bC.out.cell 3 _ rfl;have eO:=bC.out.cell 4 _ rfl;have dL:=bC.out.cell 5 _ rfl;have iO:=bC.out.cell 6 _ rfl;go_wp2_with fail;refine (C1.out _ bI.out).mono ?_;rintro e y1 ⟨rfl,b1⟩;have aZ:=Lib.hid (ah bI.out b1 bI.out.size);have bK:=Lib.hid (bC.out.below b1);clear eF dM eG eH eO dL iO;clear b1;have cB:=bK.out.cell 0 _ rfl;have bZ:=bK.out.cell 1 _ rfl;have cK:=bK.out.cell 2 _ rfl;have cO:=bK.out.cell 3 _ rfl;have cZ:=bK.out.cell 4 _ rfl;have dh:=bK.out.cell 5 _ rfl;have fZ:=bK.out.cell 6 _ rfl;go_wp2_with fail;go_ret;exact ⟨by rw [Hf.out]; rfl,aZ.out⟩
  rw [aQ h1] at C1;by_cases h2 : mF a5
  case neg=>
    have Hf:=Lib.hid (Hno.out fun h=>h2 h.needs);clear Hno aG;rw [aP h2] at C2;clear h0 h1 h2;go_enter Tryz.func37,Tryz.ntmps37;go_wp2_with fail;rw [← eT.out];refine (C0.out _ HB1.out).mono ?_;rintro e y0 ⟨rfl,b0⟩;have bI:=Lib.hid (ah HB1.out b0 HB1.out.size);have bC:=Lib.hid (R1.out.below b0);clear b0;have eF:=bC.out.cell 0 _ rfl;have dM:=bC.out.cell 1 _ rfl;have eG:=bC.out.cell 2 _ rfl;have eH:=bC.out.cell 3 _ rfl;have eO:=bC.out.cell 4 _ rfl;have dL:=bC.out.cell 5 _ rfl;have iO:=bC.out.cell 6 _ rfl;go_wp2_with fail;refine (C1.out _ bI.out).mono ?_;rintro e y1 ⟨rfl,b1⟩;have aZ:=Lib.hid (ah bI.out b1 bI.out.size);have bK:=Lib.hid (bC.out.below b1);clear eF dM eG eH eO dL iO;clear b1;have cB:=bK.out.cell 0 _ rfl;have bZ:=bK.out.cell 1 _ rfl;have cK:=bK.out.cell 2 _ rfl;have cO:=bK.out.cell 3 _ rfl;have cZ:=bK.out.cell 4 _ rfl;have dh:=bK.out.cell 5 _ rfl;have fZ:=bK.out.cell 6 _ rfl;go_wp2_with fail;refine (C2.out _ aZ.out).mono ?_;rintro e y2 ⟨rfl,b2⟩;have iL:=Lib.hid (ah aZ.out b2 aZ.out.size);have fG:=Lib.hid (bK.out.below b2);clear cB bZ cK cO cZ dh fZ;clear b2;have qK:=fG.out.cell 0 _ rfl;have oW:=fG.out.cell 1 _ rfl;have qL:=fG.out.cell 2 _ rfl;have qM:=fG.out.cell 3 _ rfl;have qN:=fG.out.cell 4 _ rfl;have qO:=fG.out.cell 5 _ rfl;have yF:=fG.out.cell 6 _ rfl;go_wp2_with fail;go_ret;exact ⟨by rw [Hf.out]; rfl,iL.out⟩
  rw [aQ h2] at C2;by_cases h3 : dN a6
  case neg=>
    have Hf:=Lib.hid (Hno.out fun h=>h3 h.tolerances);clear Hno aG;rw [aP h3] at C3;clear h0 h1 h2 h3;go_enter Tryz.func37,Tryz.ntmps37;go_wp2_with fail;rw [← eT.out];refine (C0.out _ HB1.out).mono ?_;rintro e y0 ⟨rfl,b0⟩;have bI:=Lib.hid (ah HB1.out b0 HB1.out.size);have bC:=Lib.hid (R1.out.below b0);clear b0;have eF:=bC.out.cell 0 _ rfl;have dM:=bC.out.cell 1 _ rfl;have eG:=bC.out.cell 2 _ rfl;have eH:=bC.out.cell 3 _ rfl;have eO:=bC.out.cell 4 _ rfl;have dL:=bC.out.cell 5 _ rfl;have iO:=bC.out.cell 6 _ rfl;go_wp2_with fail;refine (C1.out _ bI.out).mono ?_;rintro e y1 ⟨rfl,b1⟩;have aZ:=Lib.hid (ah bI.out b1 bI.out.size);have bK:=Lib.hid (bC.out.below b1);clear eF dM eG eH eO dL iO;clear b1;have cB:=bK.out.cell 0 _ rfl;have bZ:=bK.out.cell 1 _ rfl;have cK:=bK.out.cell 2 _ rfl;have cO:=bK.out.cell 3 _ rfl;have cZ:=bK.out.cell 4 _ rfl;have dh:=bK.out.cell 5 _ rfl;have fZ:=bK.out.cell 6 _ rfl;go_wp2_with fail;refine (C2.out _ aZ.out).mono ?_;rintro e y2 ⟨rfl,b2⟩;have iL:=Lib.hid (ah aZ.out b2 aZ.out.size);have fG:=Lib.hid (bK.out.below b2);clear cB bZ cK cO cZ dh fZ;clear b2;have qK:=fG.out.cell 0 _ rfl;have oW:=fG.out.cell 1 _ rfl;have qL:=fG.out.cell 2 _ rfl;have qM:=fG.out.cell 3 _ rfl;have qN:=fG.out.cell 4 _ rfl;have qO:=fG.out.cell 5 _ rfl;have yF:=fG.out.cell 6 _ rfl;go_wp2_with fail;refine (C3.out _ iL.out).mono ?_;rintro e y3 ⟨rfl,b3⟩;have zZ:=Lib.hid (ah iL.out b3 iL.out.size);have ny:=Lib.hid (fG.out.below b3);clear qK oW qL qM qN qO yF;clear b3;have Oe:=ny.out.cell 0 _ rfl;have Ie:=ny.out.cell 1 _ rfl;have Oh:=ny.out.cell 2 _ rfl;have Oi:=ny.out.cell 3 _ rfl;have Oj:=ny.out.cell 4 _ rfl;have Ol:=ny.out.cell 5 _ rfl;have Om:=ny.out.cell 6 _ rfl;go_wp2_with fail;go_ret;exact ⟨by rw [Hf.out]; rfl,zZ.out⟩
  rw [aQ h3] at C3;by_cases h4 : 0 ≤ a2
  case neg=>
    have Hf:=Lib.hid (Hno.out fun h=>h4 h.cpu);clear Hno aG;have g4:=decide_eq_false h4;clear h0 h1 h2 h3;go_enter Tryz.func37,Tryz.ntmps37;go_wp2_with fail;rw [← eT.out];refine (C0.out _ HB1.out).mono ?_;rintro e y0 ⟨rfl,b0⟩;have bI:=Lib.hid (ah HB1.out b0 HB1.out.size);have bC:=Lib.hid (R1.out.below b0);clear b0;have eF:=bC.out.cell 0 _ rfl;have dM:=bC.out.cell 1 _ rfl;have eG:=bC.out.cell 2 _ rfl;have eH:=bC.out.cell 3 _ rfl;have eO:=bC.out.cell 4 _ rfl;have dL:=bC.out.cell 5 _ rfl;have iO:=bC.out.cell 6 _ rfl;go_wp2_with fail;refine (C1.out _ bI.out).mono ?_;rintro e y1 ⟨rfl,b1⟩;have aZ:=Lib.hid (ah bI.out b1 bI.out.size);have bK:=Lib.hid (bC.out.below b1);clear eF dM eG eH eO dL iO;clear b1;have cB:=bK.out.cell 0 _ rfl;have bZ:=bK.out.cell 1 _ rfl;have cK:=bK.out.cell 2 _ rfl;have cO:=bK.out.cell 3 _ rfl;have cZ:=bK.out.cell 4 _ rfl;have dh:=bK.out.cell 5 _ rfl;have fZ:=bK.out.cell 6 _ rfl;go_wp2_with fail;refine (C2.out _ aZ.out).mono ?_;rintro e y2 ⟨rfl,b2⟩;have iL:=Lib.hid (ah aZ.out b2 aZ.out.size);have fG:=Lib.hid (bK.out.below b2);clear cB bZ cK cO cZ dh fZ;clear b2;have qK:=fG.out.cell 0 _ rfl;have oW:=fG.out.cell 1 _ rfl;have qL:=fG.out.cell 2 _ rfl;have qM:=fG.out.cell 3 _ rfl;have qN:=fG.out.cell 4 _ rfl;have qO:=fG.out.cell 5 _ rfl;have yF:=fG.out.cell 6 _ rfl;go_wp2_with fail;refine (C3.out _ iL.out).mono ?_;rintro e y3 ⟨rfl,b3⟩;have zZ:=Lib.hid (ah iL.out b3 iL.out.size);have ny:=Lib.hid (fG.out.below b3);clear qK oW qL qM qN qO yF;clear b3;have Oe:=ny.out.cell 0 _ rfl;have Ie:=ny.out.cell 1 _ rfl;have Oh:=ny.out.cell 2 _ rfl;have Oi:=ny.out.cell 3 _ rfl;have Oj:=ny.out.cell 4 _ rfl;have Ol:=ny.out.cell 5 _ rfl;have Om:=ny.out.cell 6 _ rfl;go_wp2_with fail;go_ret;exact ⟨by rw [Hf.out]; rfl,zZ.out⟩
  have g4:=decide_eq_true h4;by_cases h5 : 0 ≤ a3
  case neg=>
    have Hf:=Lib.hid (Hno.out fun h=>h5 h.mem);clear Hno aG;have g5:=decide_eq_false h5;clear h0 h1 h2 h3;go_enter Tryz.func37,Tryz.ntmps37;go_wp2_with fail;rw [← eT.out];refine (C0.out _ HB1.out).mono ?_;rintro e y0 ⟨rfl,b0⟩;have bI:=Lib.hid (ah HB1.out b0 HB1.out.size);have bC:=Lib.hid (R1.out.below b0);clear b0;have eF:=bC.out.cell 0 _ rfl;have dM:=bC.out.cell 1 _ rfl;have eG:=bC.out.cell 2 _ rfl;have eH:=bC.out.cell 3 _ rfl;have eO:=bC.out.cell 4 _ rfl;have dL:=bC.out.cell 5 _ rfl;have iO:=bC.out.cell 6 _ rfl;go_wp2_with fail;refine (C1.out _ bI.out).mono ?_;rintro e y1 ⟨rfl,b1⟩;have aZ:=Lib.hid (ah bI.out b1 bI.out.size);have bK:=Lib.hid (bC.out.below b1);clear eF dM eG eH eO dL iO;clear b1;have cB:=bK.out.cell 0 _ rfl;have bZ:=bK.out.cell 1 _ rfl;have cK:=bK.out.cell 2 _ rfl;have cO:=bK.out.cell 3 _ rfl;have cZ:=bK.out.cell 4 _ rfl;have dh:=bK.out.cell 5 _ rfl;have fZ:=bK.out.cell 6 _ rfl;go_wp2_with fail;refine (C2.out _ aZ.out).mono ?_;rintro e y2 ⟨rfl,b2⟩;have iL:=Lib.hid (ah aZ.out b2 aZ.out.size);have fG:=Lib.hid (bK.out.below b2);clear cB bZ cK cO cZ dh fZ;clear b2;have qK:=fG.out.cell 0 _ rfl;have oW:=fG.out.cell 1 _ rfl;have qL:=fG.out.cell 2 _ rfl;have qM:=fG.out.cell 3 _ rfl;have qN:=fG.out.cell 4 _ rfl;have qO:=fG.out.cell 5 _ rfl;have yF:=fG.out.cell 6 _ rfl;go_wp2_with fail;refine (C3.out _ iL.out).mono ?_;rintro e y3 ⟨rfl,b3⟩;have zZ:=Lib.hid (ah iL.out b3 iL.out.size);have ny:=Lib.hid (fG.out.below b3);clear qK oW qL qM qN qO yF;clear b3;have Oe:=ny.out.cell 0 _ rfl;have Ie:=ny.out.cell 1 _ rfl;have Oh:=ny.out.cell 2 _ rfl;have Oi:=ny.out.cell 3 _ rfl;have Oj:=ny.out.cell 4 _ rfl;have Ol:=ny.out.cell 5 _ rfl;have Om:=ny.out.cell 6 _ rfl;go_wp2_with fail;go_ret;exact ⟨by rw [Hf.out]; rfl,zZ.out⟩
  have g5:=decide_eq_true h5;by_cases h6 : 0 ≤ a4
  case neg=>
    have Hf:=Lib.hid (Hno.out fun h=>h6 h.lo);clear Hno aG;have g6:=decide_eq_false h6;clear h0 h1 h2 h3;go_enter Tryz.func37,Tryz.ntmps37;go_wp2_with fail;rw [← eT.out];refine (C0.out _ HB1.out).mono ?_;rintro e y0 ⟨rfl,b0⟩;have bI:=Lib.hid (ah HB1.out b0 HB1.out.size);have bC:=Lib.hid (R1.out.below b0);clear b0;have eF:=bC.out.cell 0 _ rfl;have dM:=bC.out.cell 1 _ rfl;have eG:=bC.out.cell 2 _ rfl;have eH:=bC.out.cell 3 _ rfl;have eO:=bC.out.cell 4 _ rfl;have dL:=bC.out.cell 5 _ rfl;have iO:=bC.out.cell 6 _ rfl;go_wp2_with fail;refine (C1.out _ bI.out).mono ?_;rintro e y1 ⟨rfl,b1⟩;have aZ:=Lib.hid (ah bI.out b1 bI.out.size);have bK:=Lib.hid (bC.out.below b1);clear eF dM eG eH eO dL iO;clear b1;have cB:=bK.out.cell 0 _ rfl;have bZ:=bK.out.cell 1 _ rfl;have cK:=bK.out.cell 2 _ rfl;have cO:=bK.out.cell 3 _ rfl;have cZ:=bK.out.cell 4 _ rfl;have dh:=bK.out.cell 5 _ rfl;have fZ:=bK.out.cell 6 _ rfl;go_wp2_with fail;refine (C2.out _ aZ.out).mono ?_;rintro e y2 ⟨rfl,b2⟩;have iL:=Lib.hid (ah aZ.out b2 aZ.out.size);have fG:=Lib.hid (bK.out.below b2);clear cB bZ cK cO cZ dh fZ;clear b2;have qK:=fG.out.cell 0 _ rfl;have oW:=fG.out.cell 1 _ rfl;have qL:=fG.out.cell 2 _ rfl;have qM:=fG.out.cell 3 _ rfl;have qN:=fG.out.cell 4 _ rfl;have qO:=fG.out.cell 5 _ rfl;have yF:=fG.out.cell 6 _ rfl;go_wp2_with fail;refine (C3.out _ iL.out).mono ?_;rintro e y3 ⟨rfl,b3⟩;have zZ:=Lib.hid (ah iL.out b3 iL.out.size);have ny:=Lib.hid (fG.out.below b3);clear qK oW qL qM qN qO yF;clear b3;have Oe:=ny.out.cell 0 _ rfl;have Ie:=ny.out.cell 1 _ rfl;have Oh:=ny.out.cell 2 _ rfl;have Oi:=ny.out.cell 3 _ rfl;have Oj:=ny.out.cell 4 _ rfl;have Ol:=ny.out.cell 5 _ rfl;have Om:=ny.out.cell 6 _ rfl;go_wp2_with fail;go_ret;exact ⟨by rw [Hf.out]; rfl,zZ.out⟩
  have g6:=decide_eq_true h6;by_cases h7 : a4 ≤ 1000
  case neg=>
    have Hf:=Lib.hid (Hno.out fun h=>h7 h.hi);clear Hno aG;have g7:=decide_eq_false h7;clear h0 h1 h2 h3;go_enter Tryz.func37,Tryz.ntmps37;go_wp2_with fail;rw [← eT.out];refine (C0.out _ HB1.out).mono ?_;rintro e y0 ⟨rfl,b0⟩;have bI:=Lib.hid (ah HB1.out b0 HB1.out.size);have bC:=Lib.hid (R1.out.below b0);clear b0;have eF:=bC.out.cell 0 _ rfl;have dM:=bC.out.cell 1 _ rfl;have eG:=bC.out.cell 2 _ rfl;have eH:=bC.out.cell 3 _ rfl;have eO:=bC.out.cell 4 _ rfl;have dL:=bC.out.cell 5 _ rfl;have iO:=bC.out.cell 6 _ rfl;go_wp2_with fail;refine (C1.out _ bI.out).mono ?_;rintro e y1 ⟨rfl,b1⟩;have aZ:=Lib.hid (ah bI.out b1 bI.out.size);have bK:=Lib.hid (bC.out.below b1);clear eF dM eG eH eO dL iO;clear b1;have cB:=bK.out.cell 0 _ rfl;have bZ:=bK.out.cell 1 _ rfl;have cK:=bK.out.cell 2 _ rfl;have cO:=bK.out.cell 3 _ rfl;have cZ:=bK.out.cell 4 _ rfl;have dh:=bK.out.cell 5 _ rfl;have fZ:=bK.out.cell 6 _ rfl;go_wp2_with fail;refine (C2.out _ aZ.out).mono ?_;rintro e y2 ⟨rfl,b2⟩;have iL:=Lib.hid (ah aZ.out b2 aZ.out.size);have fG:=Lib.hid (bK.out.below b2);clear cB bZ cK cO cZ dh fZ;clear b2;have qK:=fG.out.cell 0 _ rfl;have oW:=fG.out.cell 1 _ rfl;have qL:=fG.out.cell 2 _ rfl;have qM:=fG.out.cell 3 _ rfl;have qN:=fG.out.cell 4 _ rfl;have qO:=fG.out.cell 5 _ rfl;have yF:=fG.out.cell 6 _ rfl;go_wp2_with fail;refine (C3.out _ iL.out).mono ?_;rintro e y3 ⟨rfl,b3⟩;have zZ:=Lib.hid (ah iL.out b3 iL.out.size);have ny:=Lib.hid (fG.out.below b3);clear qK oW qL qM qN qO yF;clear b3;have Oe:=ny.out.cell 0 _ rfl;have Ie:=ny.out.cell 1 _ rfl;have Oh:=ny.out.cell 2 _ rfl;have Oi:=ny.out.cell 3 _ rfl;have Oj:=ny.out.cell 4 _ rfl;have Ol:=ny.out.cell 5 _ rfl;have Om:=ny.out.cell 6 _ rfl;go_wp2_with fail;go_ret;exact ⟨by rw [Hf.out]; rfl,zZ.out⟩
  have g7:=decide_eq_true h7;have Hf:=Lib.hid (aG.out ⟨h0,h1,h4,h5,h6,h7,h2,h3⟩);clear Hno aG h0 h1 h2 h3;go_enter Tryz.func37,Tryz.ntmps37;go_wp2_with fail;rw [← eT.out];refine (C0.out _ HB1.out).mono ?_;rintro e y0 ⟨rfl,b0⟩;have bI:=Lib.hid (ah HB1.out b0 HB1.out.size);have bC:=Lib.hid (R1.out.below b0);clear b0;have eF:=bC.out.cell 0 _ rfl;have dM:=bC.out.cell 1 _ rfl;have eG:=bC.out.cell 2 _ rfl;have eH:=bC.out.cell 3 _ rfl;have eO:=bC.out.cell 4 _ rfl;have dL:=bC.out.cell 5 _ rfl;have iO:=bC.out.cell 6 _ rfl;go_wp2_with fail;refine (C1.out _ bI.out).mono ?_;rintro e y1 ⟨rfl,b1⟩;have aZ:=Lib.hid (ah bI.out b1 bI.out.size);have bK:=Lib.hid (bC.out.below b1);clear eF dM eG eH eO dL iO;clear b1;have cB:=bK.out.cell 0 _ rfl;have bZ:=bK.out.cell 1 _ rfl;have cK:=bK.out.cell 2 _ rfl;have cO:=bK.out.cell 3 _ rfl;have cZ:=bK.out.cell 4 _ rfl;have dh:=bK.out.cell 5 _ rfl;have fZ:=bK.out.cell 6 _ rfl;go_wp2_with fail;refine (C2.out _ aZ.out).mono ?_;rintro e y2 ⟨rfl,b2⟩;have iL:=Lib.hid (ah aZ.out b2 aZ.out.size);have fG:=Lib.hid (bK.out.below b2);clear cB bZ cK cO cZ dh fZ;clear b2;have qK:=fG.out.cell 0 _ rfl;have oW:=fG.out.cell 1 _ rfl;have qL:=fG.out.cell 2 _ rfl;have qM:=fG.out.cell 3 _ rfl;have qN:=fG.out.cell 4 _ rfl;have qO:=fG.out.cell 5 _ rfl;have yF:=fG.out.cell 6 _ rfl;go_wp2_with fail;refine (C3.out _ iL.out).mono ?_;rintro e y3 ⟨rfl,b3⟩;have zZ:=Lib.hid (ah iL.out b3 iL.out.size);have ny:=Lib.hid (fG.out.below b3);clear qK oW qL qM qN qO yF;clear b3;have Oe:=ny.out.cell 0 _ rfl;have Ie:=ny.out.cell 1 _ rfl;have Oh:=ny.out.cell 2 _ rfl;have Oi:=ny.out.cell 3 _ rfl;have Oj:=ny.out.cell 4 _ rfl;have Ol:=ny.out.cell 5 _ rfl;have Om:=ny.out.cell 6 _ rfl;go_wp2_with fail;go_ret;exact ⟨by rw [Hf.out]; rfl,zZ.out⟩
end pod
namespace ty.Pod
open Go Go.RowKit
theorem Aa {w : World} {B f : Nat} {x : Pod} {v1 v5 v6 : Value} {F1 F5 F6 : List Cl} (h : x.Wf) (o1 : dG w B (f + 1) v1 (.sl 2 x.labels.length (x.labels.flatMap Label.row)) F1) (o5 : dG w B (f + 1) v5 (.sl 3 x.needs.length (x.needs.flatMap Need.row)) F5) (o6 : dG w B (f + 1) v6 (.sl 4 x.tolerances.length (x.tolerances.flatMap aj.row)) F6) (n1 : F1.Nodup) (n5 : F5.Nodup) (n6 : F6.Nodup) (mE : ∀ y ∈ F1,y ∉ F5) (yD : ∀ y ∈ F1,y ∉ F6) (yE : ∀ y ∈ F5,y ∉ F6) : ∃ F,bF w B (f + 1) [.string x.name,v1,.int .i64 x.cpu,.int .i64 x.mem,.int .i64 x.rank,v5,v6] x.row F ∧ F.Nodup ∧ ∀ y ∈ F,y ∈ F1 ∨ y ∈ F5 ∨ y ∈ F6:=by
  obtain ⟨w0,w2,w3,w4⟩:=h;refine ⟨_,bF.cons (rP w0) (bF.cons o1 (bF.cons (lX w2) (bF.cons (lX w3) (bF.cons (lX w4) (bF.cons o5 (bF.cons o6 (bF.nil))))))),?_,?_⟩
  · simp only [List.nil_append,List.append_nil];exact (List.nodup_append.2 ⟨n1,(List.nodup_append.2 ⟨n5,n6,fun a ha b hb e=>yE a ha (by rw [e]; exact hb)⟩),fun a ha b hb e=>(List.mem_append.1 hb).elim (fun hb=>mE a ha (by rw [e]; exact hb)) (fun hb=>yD a ha (by rw [e]; exact hb))⟩)
  · simp only [List.nil_append,List.append_nil];intro y hy;simpa only [List.mem_append] using hy
end ty.Pod
section
open Go Go.RowKit
structure Part (w0 : World) (B g o : Nat) (w : World) (xs : List Value) : Prop where
  base : B ≤ g
  lt : g < w0.heap.size
  cell : ∀ j u,xs[j]? = some u → w.cell? ⟨g,o + j,none⟩ = some u
  fz : ∀ j,j < xs.length → w.frozen? ⟨g,o + j,none⟩ = false
  gr : w0.grownBy w (some g)
  out : ∀ m,(m < o ∨ o + xs.length ≤ m) → fQ w0 w (g,m)
theorem Part.below {w0 w w' : World} {B g o : Nat} {xs : List Value} (h : Part w0 B g o w xs) (hb : Below w.heap.size w w') : Part w0 B g o w' xs:=by
  have hl : g < w.heap.size:=Nat.lt_of_lt_of_le h.lt h.gr.size;have e:=hb.block g hl;exact ⟨h.base,h.lt,fun j u hu=>(World.cell?_of_block e).trans (h.cell j u hu),fun j hj=>(World.frozen?_of_block e).trans (h.fz j hj),aA h.gr (aR hb _),fun m hm=>(h.out m hm).trans (fQ.of_block e)⟩
theorem Part.cellAt {w0 w : World} {B g o : Nat} {xs : List Value} (h : Part w0 B g o w xs) (j : Nat) (hj : j < xs.length) : w.cell? ⟨g,o + j,none⟩ = some xs[j]:=h.cell j _ (List.getElem?_eq_getElem hj)
theorem grownBy_setCell {w : World} (a : Addr) (u : Value) : w.grownBy (w.setCell a u) (some a.block):=
  ⟨rfl,rfl,rfl,by simp [World.setCell],fun k hk hn=>Below.heap_setCell _ _ _ _ (fun e=>hn (by rw [show k = a.block from e]))⟩
theorem pz {g : Nat} : ∀ (vs : List Value) (o : Nat) (w : World),w.grownBy (w.setCells g o vs) (some g)
  | [],_,w=>World.grownBy.refl _ _
  | v :: r,o,w=>aA (grownBy_setCell _ _) (pz r (o + 1) _)
theorem Part.stored {w0 w : World} {B g o : Nat} {xs : List Value} (h : Part w0 B g o w xs) (j : Nat) (hj : j < xs.length) (u : Value) : Part w0 B g o (w.setCell ⟨g,o + j,none⟩ u) (xs.set j u):=by
  refine ⟨h.base,h.lt,fun i v hv=>?_,fun i hi=>?_,aA h.gr (grownBy_setCell _ _),fun m hm=>?_⟩
  · by_cases e : i = j
    · subst e;rw [List.getElem?_set_self hj] at hv;injection hv with hv;rw [← hv];exact World.cell?_setCell_same w _ _ (h.cellAt i hj)
    · rw [List.getElem?_set_ne (Ne.symm e)] at hv;rw [World.cell?_setCell_other w ⟨g,o + j,none⟩ ⟨g,o + i,none⟩ u (fun e2=>e (by injection e2 with _ e2; omega))];exact h.cell i v hv
  · rw [World.frozen?_setCell];exact h.fz i (by simpa using hi)
  · rw [List.length_set] at hm;refine (h.out m hm).trans ⟨World.cell?_setCell_other w ⟨g,o + j,none⟩ ⟨g,m,none⟩ u (fun e2=>?_),World.frozen?_setCell _ _ _ _⟩;injection e2 with _ e2;omega
theorem Part.setCells {w0 : World} {B g o : Nat} : ∀ (vs : List Value) {w : World} {xs : List Value} (k : Nat),Part w0 B g o w xs → k + vs.length ≤ xs.length → Part w0 B g o (w.setCells g (o + k) vs) (pO xs k vs)
  | [],w,xs,k,h,_=>h
  | v :: r,w,xs,k,h,hl=>by
    simp only [List.length_cons] at hl;have h1:=Part.setCells r (k + 1) (h.stored k (by omega) v) (by simp; omega);rw [World.setCells,pO,Nat.add_assoc];exact h1
theorem Part.kept {w0 w : World} {B g o : Nat} {xs : List Value} (h : Part w0 B g o w xs) (hn : 0 < xs.length) : nu (rO g o xs.length) w0 w:=by
  refine ⟨h.gr.os,h.gr.tape,h.gr.output,h.gr.size,fun p hp hF=>?_,fun k hk hF=>?_⟩
  · by_cases e : p.1 = g
    · obtain ⟨a,m⟩:=p;obtain rfl : a = g:=e;refine h.out m ?_;by_cases h1 : m < o
      · exact .inl h1
      · by_cases h2 : o + xs.length ≤ m
        · exact .inr h2
        · exact absurd (jN.2 ⟨rfl,by simp; omega,by simp; omega⟩) hF
    · exact fQ.of_block (h.gr.block _ hp (fun e2=>e (by injection e2)))
  · refine h.gr.block k hk (fun e=>hF (qg.2 ⟨o,jN.2 ⟨by injection e,Nat.le_refl _,by simp; omega⟩⟩))
theorem CJ {w : World} {B f g o c : Nat} {ks : List ByteArray} (hB : B ≤ g) (hg : g < w.heap.size) (hc : ks.length ≤ c) (hcm : c ≤ maxLen) (hcell : ∀ j (h : j < ks.length),w.cell? ⟨g,o + j,none⟩ = some (.string ks[j])) (hfz : ∀ j,j < ks.length → w.frozen? ⟨g,o + j,none⟩ = false)
    (hz : ∀ x ∈ ks,x.size ≤ maxLen) : dG w B (f + 2) (.slice (some ⟨g,o,none⟩) ks.length c) (.sl 1 ks.length (ks.map C.str)) (rO g o ks.length):=by
  refine ⟨by simp,_,c,rfl,hc,hcm,.inr ⟨g,o,List.replicate ks.length [],rfl,hB,hg,?_,by simp,fun m d Fm hd nM=>?_⟩⟩
  · have : (List.replicate ks.length ([] : List Cl)).flatten = []:=(by simp);rw [this,List.append_nil,List.length_map]
  · have hm : m < ks.length:=(by have:=(List.getElem?_eq_some_iff.1 hd).1; simpa using this);rw [List.getElem?_map,List.getElem?_eq_getElem hm] at hd;injection hd with hd;rw [List.getElem?_replicate,if_pos hm] at nM;injection nM with nM;subst nM;rw [← hd];exact ⟨_,hcell m hm,hfz m hm,rP (hz _ (List.getElem_mem hm))⟩
theorem CK {w : World} {B f size c : Nat} {A : Option Addr} (hcm : c ≤ maxLen) : dG w B (f + 1) (.slice A 0 c) (.sl size 0 []) []:=⟨by simp,A,c,rfl,Nat.zero_le _,hcm,.inl ⟨rfl,rfl⟩⟩
theorem dG.part {w : World} {B f n c : Nat} {A : Option Addr} {ks : List ByteArray} {F : List Cl} (h : dG w B f (.slice A n c) (.sl 1 n (ks.map C.str)) F) (hn : 0 < n) :
    n = ks.length ∧ n ≤ c ∧ c ≤ maxLen ∧ ∃ g o,A = some ⟨g,o,none⟩ ∧ F = rO g o ks.length ∧ Part w B g o w (aT ks):=by
  cases f with
  | zero=>exact h.elim
  | succ f=>
    obtain ⟨hl,A',c',h0,h1,h2,⟨rfl,_⟩ | ⟨g,o,Fs,rfl,h3,h4,rfl,h5,h6⟩⟩:=h
    · exact absurd hn (Nat.lt_irrefl _)
    · injection h0 with e1 _ e3;subst e1 e3;have hnk : n = ks.length:=(by simpa using hl.symm)
      have hFs : ∀ Fm ∈ Fs,Fm = []:=fun Fm nM=>by
        obtain ⟨m,hm,rfl⟩:=List.getElem_of_mem nM;have hmk : m < ks.length:=(by rw [h5] at hm; simpa using hm);obtain ⟨u,_,_,ho⟩:=h6 m (.str ks[m]) _ (by simp [hmk]) (List.getElem?_eq_getElem hm);exact ho.flat trivial
      have YK : Fs.flatten = []:=List.flatten_eq_nil_iff.2 hFs;refine ⟨hnk,h1,h2,g,o,rfl,by rw [YK,List.append_nil,List.length_map],h3,h4,fun j u hu=>?_,fun j hj=>?_,World.grownBy.refl _ _,fun m _=>⟨rfl,rfl⟩⟩
      · have hj : j < ks.length:=(by have:=(List.getElem?_eq_some_iff.1 hu).1; rwa [bG] at this);obtain ⟨v,hv,_,ho⟩:=h6 j (.str ks[j]) _ (by simp [hj]) (List.getElem?_eq_getElem (by rw [h5]; simpa using hj));rw [bV ks j hj] at hu;injection hu with hu;rw [hv,← hu,ho.lies.str.1]
      · rw [bG] at hj;obtain ⟨v,_,hz,_⟩:=h6 j (.str ks[j]) _ (by simp [hj]) (List.getElem?_eq_getElem (by rw [h5]; simpa using hj));exact hz
def kM (w : World) (B f : Nat) (e : TypeId) (size : Nat) (v : Value) (n : Nat) (cells : List C) : Prop:=
  ∃ xs F,w.ownsRow B e size v n xs ∧ cells.length = n * size ∧ bF w B f xs cells F ∧ F.Nodup ∧ ∀ p ∈ F,v.ownBlock ≠ some p.1
theorem kM.lt {w : World} {B f : Nat} {e : TypeId} {size : Nat} {v : Value} {n : Nat} {cells : List C} (h : kM w B f e size v n cells) : ∀ k,v.ownBlock = some k → B ≤ k ∧ k < w.heap.size:=by
  obtain ⟨xs,F,h1,_⟩:=h;exact h1.lt
theorem kM.own {w : World} {B f : Nat} {e : TypeId} {size : Nat} {v : Value} {n : Nat} {cells : List C} (h : kM w B f e size v n cells) : ∃ F,dG w B (f + 1) v (.sl size n cells) F ∧ F.Nodup ∧ ∀ x ∈ KZ F,B ≤ x ∧ x < w.heap.size:=by
  obtain ⟨xs,F,h1,h2,⟨h3,Fs,h4,rfl,h5⟩,h6,h7⟩:=h;have hx:=h1.1;rcases h1.2 with ⟨rfl,rfl⟩ | ⟨g,c,cur,rfl,k1,k2,k3,k4,k5,k6⟩
  · have ho : dG w B (f + 1) (.slice none 0 0) (.sl size 0 cells) []:=⟨h2,none,0,rfl,Nat.le_refl _,by simp [maxLen],.inl ⟨rfl,rfl⟩⟩;exact ⟨[],ho,List.nodup_nil,ho.ranges⟩
  · have ho : dG w B (f + 1) (.slice (some ⟨g,0,none⟩) n c) (.sl size n cells) (rO g 0 cells.length ++ Fs.flatten):=by
      refine ⟨h2,_,c,rfl,k3,k4,.inr ⟨g,0,Fs,rfl,k1,aX k2,rfl,h4,fun m d Fm hd nM=>?_⟩⟩;have hm : m < cells.length:=(List.getElem?_eq_some_iff.1 hd).1;have hmx : m < xs.length:=(by omega);have e1 : xs[m]? = some (xs[m]'hmx):=List.getElem?_eq_getElem hmx;generalize (xs[m]'hmx) = u at e1;rw [Nat.zero_add];refine ⟨u,?_,h1.frozenAt m,h5 m u d Fm e1 hd nM⟩;rw [h1.cellAt m (by omega)];exact e1
    refine ⟨_,ho,List.nodup_append.2 ⟨qd _ _ _,h6,fun x hx y hy e=>?_⟩,ho.ranges⟩;subst e;obtain ⟨e,_⟩:=jN.1 hx;exact h7 x hy (by rw [e]; rfl)
theorem bF.ones {w : World} {B f : Nat} {vs : List Value} {ds : List C} {F : List Cl} (h : bF w B f vs ds F) : ∀ u ∈ vs,u.oneCell' = true:=by
  have hl:=h.lies;intro v hv;obtain ⟨m,hm,rfl⟩:=List.getElem_of_mem hv;have h2:=hl.2 m _ _ (List.getElem?_eq_getElem hm) (List.getElem?_eq_getElem (by have:=hl.1; omega));generalize vs[m] = u at h2;generalize ds[m]'_ = d at h2;cases f with
  | zero=>exact h2.elim
  | succ f=>
    cases d with
    | int k n=>obtain ⟨rfl,_⟩:=h2; rfl
    | bool b=>obtain rfl:=h2; rfl
    | str s=>obtain ⟨rfl,_⟩:=h2; rfl
    | sl k n cs=>obtain ⟨A,c,rfl,_⟩:=h2; rfl
end
section
open Go Go.RowKit ty
theorem dG.jU {w : World} {B f : Nat} {v : Value} {d : C} {F : List Cl} (h : dG w B f v d F) {g o : Nat} {u : Value} (hg : g < B) : dG (w.setCell ⟨g,o,none⟩ u) B f v d F:=
  h.kept (by simp [World.setCell]) (fun x hx=>fQ.of_block (Below.heap_setCell _ _ _ _ (by have:=(h.range x hx).1; show x.1 ≠ g; omega)))
theorem dG.gH {w : World} {B f : Nat} {v : Value} {d : C} {F : List Cl} (h : dG w B f v d F) {g : Nat} {c : Array Value} (hg : g < B) : dG (w.setRow g c) B f v d F:=
  h.kept (by simp [World.setRow]) (fun x hx=>fQ.of_block (by
    have:=(h.range x hx).1;simp only [World.setRow,Array.getElem?_modify];rw [if_neg (by omega)]))
theorem bF.gH {w : World} {B f : Nat} {vs : List Value} {ds : List C} {F : List Cl} {g : Nat} {c : Array Value} (h : bF w B f vs ds F) (hg : g < B) : bF (w.setRow g c) B f vs ds F:=
  h.kept (by simp [World.setRow]) (fun x hx=>fQ.of_block (by
    have:=(h.range x hx).1;simp only [World.setRow,Array.getElem?_modify];rw [if_neg (by omega)]))
theorem bF.TW {w : World} {B f : Nat} {vs : List Value} {ds : List C} {F : List Cl} (h : bF w B f vs ds F) : vs.toArray.all (·.oneCell') = true:=by
  exact all_oneCell_toArray h.ones
def rQ {α : Type} (w w' : World) (e : Ending) (sz : Nat) (row : α → List C) (r : List α × Bool) : Prop:=
  ∃ v f F,e = .returned (.tuple #[v,.bool r.2]) ∧ dG w' w.heap.size (f + 1) v (.sl sz r.1.length (r.1.flatMap row)) F ∧ F.Nodup ∧ Below w.heap.size w w'
theorem dB.toC {α : Type} {w w' : World} {e : Ending} {sz : Nat} {row : α → List C} {r : List α × Bool} (h : dB w w' e sz row r) : rQ w w' e sz row r:=by
  obtain ⟨v,f,F,he,ho,hn,hb⟩:=h;obtain ⟨G,a,b,_⟩:=ho.toC hn;exact ⟨v,f,G,he,a,b,hb⟩
def vU {α : Type} (w w' : World) (e : Ending) (sz : Nat) (row : α → List C) (l : List α) : Prop:=
  ∃ v f F,e = .returned v ∧ dG w' w.heap.size (f + 1) v (.sl sz l.length (l.flatMap row)) F ∧ F.Nodup ∧ Below w.heap.size w w'
def JV (w : World) (ds : List C) (e : Ending) (w' : World) : Prop:=
  ∃ us D F,e = .returned (.agg us.toArray) ∧ bF w' w.heap.size (D + 1) us ds F ∧ F.Nodup ∧ Below w.heap.size w w'
def pE {α : Type} (row : α → List C) (w w' : World) (e : Ending) (r : α × Bool) : Prop:=
  ∃ us D F,e = .returned (.tuple #[.agg us.toArray,.bool r.2]) ∧ bF w' w.heap.size (D + 1) us (row r.1) F ∧ F.Nodup ∧ Below w.heap.size w w'
structure qh (z : World) (B E f : Nat) (v : Value) (d : C) (F : List Cl) : Prop where
  own : dG z B f v d F
  gY : F.Nodup
  rng : ∀ x ∈ F,B ≤ x.1 ∧ x.1 < E
variable {z z' : World}
theorem qh.call {B E f : Nat} {v : Value} {d : C} {F : List Cl} (h : qh z B E f v d F) (hb : Below z.heap.size z z') : qh z' B E f v d F:=⟨h.own.below hb,h.gY,h.rng⟩
theorem qh.put {B E f g j : Nat} {u v : Value} {d : C} {F : List Cl} (h : qh z B E f v d F) (hg : g < B) : qh (z.setCell ⟨g,j,none⟩ u) B E f v d F:=⟨dG.jU h.own hg,h.gY,h.rng⟩
theorem qh.done {B B' E f f' g : Nat} {c : Array Value} {v : Value} {d : C} {F : List Cl} (h : qh z B E f v d F) (hg : g < B) (hB : B' ≤ B) (hf : f ≤ f') : dG (z.setRow g c) B' f' v d F:=
  dG.deeper hf ((dG.gH h.own hg).lower hB)
theorem qh.apart {B E f B' E' f' : Nat} {z' : World} {v v' : Value} {d d' : C} {F F' : List Cl} (h : qh z B E f v d F) (h' : qh z' B' E' f' v' d' F') (hE : E ≤ B') : ∀ x ∈ F,x ∉ F':=fun x hx hx'=>by
  have h1:=(h.rng x hx).2;have h2:=(h'.rng x hx').1;omega
end
end Go.Proofs.YtcfbkfmkjggcdaaGreatDoor
