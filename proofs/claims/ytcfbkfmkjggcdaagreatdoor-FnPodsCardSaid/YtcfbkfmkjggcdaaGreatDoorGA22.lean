/- Merged: SamePodS SameHostS EqsToleranceI. -/
import Derived.Test.YtcfbkfmkjggcdaaGreatDoorGA14
import Derived.Test.YtcfbkfmkjggcdaaGreatDoorGA13
import Derived.Test.YtcfbkfmkjggcdaaGreatDoorGA21
import Derived.Test.YtcfbkfmkjggcdaaGreatDoorGA5
import Derived.Test.YtcfbkfmkjggcdaaGreatDoorGA6
import Derived.Test.YtcfbkfmkjggcdaaGreatDoorGA0
import Derived.Laws.Cover1
import Derived.Test.YtcfbkfmkjggcdaaGreatDoorGA9
import Derived.Test.YtcfbkfmkjggcdaaGreatDoorGA7
set_option linter.unusedVariables false
namespace Go.Proofs.YtcfbkfmkjggcdaaGreatDoor
namespace pod
open Go.ChangeShapes Go.WideShapes Go.ChangeAt Go.RowKit ty lab need
set_option maxRecDepth 100000 in
set_option maxHeartbeats 32000000 in
theorem Ej (x y : Pod) (f1 f2 : Nat) (us vs : List Value) (w : World) (hx : aH w f1 us x.row) (hy : aH w f2 vs y.row) :
    Calls Tryz.prog 13 #[.agg us.toArray,.agg vs.toArray] w fun e w'=>e = .returned (.bool (yes (x = y))) ∧ Below w.heap.size w w':=by
  obtain ⟨R,hR⟩ : ∃ R,yes (x = y) = R:=⟨_,rfl⟩;rw [hR];have Hno : Hid (¬ x = y → R = false):=fun h=>by rw [← hR]; exact aP h
  have aG : Hid (x = y → R = true):=fun h=>by rw [← hR]; exact aQ h
  clear hR;obtain ⟨a0,a1,a2,a3,a4,a5,a6⟩:=x;obtain ⟨b0,b1,b2,b3,b4,b5,b6⟩:=y;obtain ⟨A1,c1,A5,c5,A6,c6,rfl,hwf,k1,m1,l1,k5,m5,l5,k6,m6,l6⟩:=Pod.opened hx;obtain ⟨B1,d1,B5,d5,B6,d6,rfl,dZ,OT,OU,r1,OV,OW,r5,Zi,Zj,r6⟩:=Pod.opened hy;simp only at k1 m1 l1 OT OU r1 k5 m5 l5 OV OW r5 k6 m6 l6 Zi Zj r6;obtain ⟨_,_,e1,_,_,f1,rfl,hka⟩:=bD aj.au l6;injection e1 with e1 _ e2;subst e1 e2;obtain ⟨_,_,e1,_,_,f2,rfl,hkb⟩:=bD aj.au r6;injection e1 with e1 _ e2;subst e1 e2;obtain ⟨w1,hw1⟩ : ∃ w1,w1 = (w.alloc (.cells #[.string a0,.slice A1 a1.length c1,.int .i64 a2,.int .i64 a3,.int .i64 a4,.slice A5 a5.length c5,.slice A6 a6.length c6] 28)).alloc (.cells #[.string b0,.slice B1 b1.length d1,.int .i64 b2,.int .i64 b3,.int .i64 b4,.slice B5 b5.length d5,.slice B6 b6.length d6] 28):=⟨_,rfl⟩;have hb1 : Below w.heap.size w w1:=(by rw [hw1]; exact ((Below.refl _ _).alloc (Nat.le_refl _) _).alloc (by simp) _);have wC:=Lib.hid (show aC 28 w1 w.heap.size [.string a0,.slice A1 a1.length c1,.int .i64 a2,.int .i64 a3,.int .i64 a4,.slice A5 a5.length c5,.slice A6 a6.length c6] by rw [hw1]; exact (aC.new _ _ _).alloc)
  have uW:=Lib.hid (show aC 28 w1 (w.heap.size + 1) [.string b0,.slice B1 b1.length d1,.int .i64 b2,.int .i64 b3,.int .i64 b4,.slice B5 b5.length d5,.slice B6 b6.length d6] by
    have h:=aC.new 28 (w.alloc (.cells #[.string a0,.slice A1 a1.length c1,.int .i64 a2,.int .i64 a3,.int .i64 a4,.slice A5 a5.length c5,.slice A6 a6.length c6] 28)) [.string b0,.slice B1 b1.length d1,.int .i64 b2,.int .i64 b3,.int .i64 b4,.slice B5 b5.length d5,.slice B6 b6.length d6];rw [show (w.alloc (.cells #[.string a0,.slice A1 a1.length c1,.int .i64 a2,.int .i64 a3,.int .i64 a4,.slice A5 a5.length c5,.slice A6 a6.length c6] 28)).heap.size = w.heap.size + 1 by simp] at h;rw [hw1]; exact h)
  have eT:=Lib.hid hw1;have C1:=Lib.hid (fun w' (hb : Below w.heap.size w w')=>x9 a1 b1 _ _ _ _ w' (l1.below hb) (r1.below hb));have C5:=Lib.hid (fun w' (hb : Below w.heap.size w w')=>Gw a5 b5 _ _ _ _ w' (l5.below hb) (r5.below hb));have HB1:=Lib.hid hb1;have HKa:=Lib.hid hka;have HKb:=Lib.hid hkb;have HM : Hid (a6.length ≤ maxLen):=Nat.le_trans k6 m6;clear hx hy hwf dZ hb1 hw1 hka hkb k1 m1 l1 OT OU r1 k5 m5 l5 OV OW r5 k6 m6 l6 Zi Zj r6;by_cases h0 : a0 = b0
  case neg=>
    have Hf:=Lib.hid (Hno.out fun h=>h0 (by cases h; rfl));clear Hno aG;have n0:=dH h0;clear h0;go_enter Tryz.func13,Tryz.ntmps13;go_wp2_with fail;rw [← eT.out];go_ret;exact ⟨by rw [Hf.out]; rfl,HB1.out⟩
  have n0:=cu h0;have E0:=Lib.hid h0;clear h0;by_cases h1 : a1 = b1
  case neg=>
    have Hf:=Lib.hid (Hno.out fun h=>h1 (by cases h; rfl));clear Hno aG;rw [aP h1] at C1;clear h1;go_enter Tryz.func13,Tryz.ntmps13;go_wp2_with fail;rw [← eT.out];refine (C1.out _ HB1.out).mono ?_;rintro e y1 ⟨rfl,q1⟩;have aZ:=Lib.hid (ah HB1.out q1 HB1.out.size);have aN:=Lib.hid (wC.out.below q1);have aO:=Lib.hid (uW.out.below q1);clear q1;have cB:=aN.out.cell 0 _ rfl;have jm:=aO.out.cell 0 _ rfl;have bZ:=aN.out.cell 1 _ rfl;have jo:=aO.out.cell 1 _ rfl;have cK:=aN.out.cell 2 _ rfl;have jq:=aO.out.cell 2 _ rfl;have cO:=aN.out.cell 3 _ rfl;have jr:=aO.out.cell 3 _ rfl;have cZ:=aN.out.cell 4 _ rfl;have jv:=aO.out.cell 4 _ rfl;have dh:=aN.out.cell 5 _ rfl;have jw:=aO.out.cell 5 _ rfl;have fZ:=aN.out.cell 6 _ rfl;have qm:=aO.out.cell 6 _ rfl;go_wp2_with fail;go_ret;exact ⟨by rw [Hf.out]; rfl,aZ.out⟩
  rw [aQ h1] at C1;have E1:=Lib.hid h1;clear h1;by_cases h2 : a2 = b2
  case neg=>
    have Hf:=Lib.hid (Hno.out fun h=>h2 (by cases h; rfl));clear Hno aG;have n2 : (a2 != b2) = true:=bne_iff_ne.2 h2;have o2 : (a2 == b2) = false:=beq_eq_false_iff_ne.2 h2;clear h2;go_enter Tryz.func13,Tryz.ntmps13;go_wp2_with fail;rw [← eT.out];refine (C1.out _ HB1.out).mono ?_;rintro e y1 ⟨rfl,q1⟩;have aZ:=Lib.hid (ah HB1.out q1 HB1.out.size);have aN:=Lib.hid (wC.out.below q1);have aO:=Lib.hid (uW.out.below q1);clear q1;have cB:=aN.out.cell 0 _ rfl;have jm:=aO.out.cell 0 _ rfl;have bZ:=aN.out.cell 1 _ rfl;have jo:=aO.out.cell 1 _ rfl;have cK:=aN.out.cell 2 _ rfl;have jq:=aO.out.cell 2 _ rfl;have cO:=aN.out.cell 3 _ rfl;have jr:=aO.out.cell 3 _ rfl;have cZ:=aN.out.cell 4 _ rfl;have jv:=aO.out.cell 4 _ rfl;have dh:=aN.out.cell 5 _ rfl;have jw:=aO.out.cell 5 _ rfl;have fZ:=aN.out.cell 6 _ rfl;have qm:=aO.out.cell 6 _ rfl;go_wp2_with fail;go_ret;exact ⟨by rw [Hf.out]; rfl,aZ.out⟩
  have n2 : (a2 != b2) = false:=(by rw [h2]; exact bne_self_eq_false _);have o2 : (a2 == b2) = true:=beq_iff_eq.2 h2;have E2:=Lib.hid h2;clear h2;by_cases h3 : a3 = b3
  case neg=>
    have Hf:=Lib.hid (Hno.out fun h=>h3 (by cases h; rfl));clear Hno aG;have n3 : (a3 != b3) = true:=bne_iff_ne.2 h3;have o3 : (a3 == b3) = false:=beq_eq_false_iff_ne.2 h3;clear h3;go_enter Tryz.func13,Tryz.ntmps13;go_wp2_with fail;rw [← eT.out];refine (C1.out _ HB1.out).mono ?_;rintro e y1 ⟨rfl,q1⟩;have aZ:=Lib.hid (ah HB1.out q1 HB1.out.size);have aN:=Lib.hid (wC.out.below q1);have aO:=Lib.hid (uW.out.below q1);clear q1;have cB:=aN.out.cell 0 _ rfl;have jm:=aO.out.cell 0 _ rfl;have bZ:=aN.out.cell 1 _ rfl;have jo:=aO.out.cell 1 _ rfl;have cK:=aN.out.cell 2 _ rfl;have jq:=aO.out.cell 2 _ rfl;have cO:=aN.out.cell 3 _ rfl;have jr:=aO.out.cell 3 _ rfl;have cZ:=aN.out.cell 4 _ rfl;have jv:=aO.out.cell 4 _ rfl;have dh:=aN.out.cell 5 _ rfl;have jw:=aO.out.cell 5 _ rfl;have fZ:=aN.out.cell 6 _ rfl;have qm:=aO.out.cell 6 _ rfl;go_wp2_with fail;go_ret;exact ⟨by rw [Hf.out]; rfl,aZ.out⟩
  have n3 : (a3 != b3) = false:=(by rw [h3]; exact bne_self_eq_false _);have o3 : (a3 == b3) = true:=beq_iff_eq.2 h3;have E3:=Lib.hid h3;clear h3;by_cases h4 : a4 = b4
  case neg=>
    have Hf:=Lib.hid (Hno.out fun h=>h4 (by cases h; rfl));clear Hno aG;have n4 : (a4 != b4) = true:=bne_iff_ne.2 h4;have o4 : (a4 == b4) = false:=beq_eq_false_iff_ne.2 h4;clear h4;go_enter Tryz.func13,Tryz.ntmps13;go_wp2_with fail;rw [← eT.out];refine (C1.out _ HB1.out).mono ?_;rintro e y1 ⟨rfl,q1⟩;have aZ:=Lib.hid (ah HB1.out q1 HB1.out.size);have aN:=Lib.hid (wC.out.below q1);have aO:=Lib.hid (uW.out.below q1);clear q1;have cB:=aN.out.cell 0 _ rfl;have jm:=aO.out.cell 0 _ rfl;have bZ:=aN.out.cell 1 _ rfl;have jo:=aO.out.cell 1 _ rfl;have cK:=aN.out.cell 2 _ rfl;have jq:=aO.out.cell 2 _ rfl;have cO:=aN.out.cell 3 _ rfl;have jr:=aO.out.cell 3 _ rfl;have cZ:=aN.out.cell 4 _ rfl;have jv:=aO.out.cell 4 _ rfl;have dh:=aN.out.cell 5 _ rfl;have jw:=aO.out.cell 5 _ rfl;have fZ:=aN.out.cell 6 _ rfl;have qm:=aO.out.cell 6 _ rfl;go_wp2_with fail;go_ret;exact ⟨by rw [Hf.out]; rfl,aZ.out⟩
  have n4 : (a4 != b4) = false:=(by rw [h4]; exact bne_self_eq_false _);have o4 : (a4 == b4) = true:=beq_iff_eq.2 h4;have E4:=Lib.hid h4;clear h4;by_cases h5 : a5 = b5
  case neg=>
    have Hf:=Lib.hid (Hno.out fun h=>h5 (by cases h; rfl));clear Hno aG;rw [aP h5] at C5;clear h5;go_enter Tryz.func13,Tryz.ntmps13;go_wp2_with fail;rw [← eT.out];refine (C1.out _ HB1.out).mono ?_;rintro e y1 ⟨rfl,q1⟩;have aZ:=Lib.hid (ah HB1.out q1 HB1.out.size);have aN:=Lib.hid (wC.out.below q1);have aO:=Lib.hid (uW.out.below q1);clear q1;have cB:=aN.out.cell 0 _ rfl;have jm:=aO.out.cell 0 _ rfl;have bZ:=aN.out.cell 1 _ rfl;have jo:=aO.out.cell 1 _ rfl;have cK:=aN.out.cell 2 _ rfl;have jq:=aO.out.cell 2 _ rfl;have cO:=aN.out.cell 3 _ rfl;have jr:=aO.out.cell 3 _ rfl;have cZ:=aN.out.cell 4 _ rfl;have jv:=aO.out.cell 4 _ rfl;have dh:=aN.out.cell 5 _ rfl;have jw:=aO.out.cell 5 _ rfl;have fZ:=aN.out.cell 6 _ rfl;have qm:=aO.out.cell 6 _ rfl;go_wp2_with fail;refine (C5.out _ aZ.out).mono ?_;rintro e y5 ⟨rfl,q5⟩;have iA:=Lib.hid (ah aZ.out q5 aZ.out.size);have dW:=Lib.hid (aN.out.below q5);have dX:=Lib.hid (aO.out.below q5);clear cB jm bZ jo cK jq cO jr cZ jv dh jw fZ qm;clear q5;have rW:=dW.out.cell 0 _ rfl;have Bp:=dX.out.cell 0 _ rfl;have rX:=dW.out.cell 1 _ rfl;have Bq:=dX.out.cell 1 _ rfl;have rY:=dW.out.cell 2 _ rfl;have Br:=dX.out.cell 2 _ rfl;have rZ:=dW.out.cell 3 _ rfl;have Bt:=dX.out.cell 3 _ rfl;have sj:=dW.out.cell 4 _ rfl;have Bu:=dX.out.cell 4 _ rfl;have su:=dW.out.cell 5 _ rfl;have Bv:=dX.out.cell 5 _ rfl;have xI:=dW.out.cell 6 _ rfl;have Gz:=dX.out.cell 6 _ rfl;go_wp2_with fail;go_ret;exact ⟨by rw [Hf.out]; rfl,iA.out⟩
  rw [aQ h5] at C5;have E5:=Lib.hid h5;clear h5;by_cases h6 : a6.length = b6.length
  case neg=>
    have Hf:=Lib.hid (Hno.out fun h=>h6 (by cases h; rfl));clear Hno aG;have n6 : ((a6.length : Int) != (b6.length : Int)) = true:=bne_iff_ne.2 (by omega);clear h6;go_enter Tryz.func13,Tryz.ntmps13;go_wp2_with fail;rw [← eT.out];refine (C1.out _ HB1.out).mono ?_;rintro e y1 ⟨rfl,q1⟩;have aZ:=Lib.hid (ah HB1.out q1 HB1.out.size);have aN:=Lib.hid (wC.out.below q1);have aO:=Lib.hid (uW.out.below q1);clear q1;have cB:=aN.out.cell 0 _ rfl;have jm:=aO.out.cell 0 _ rfl;have bZ:=aN.out.cell 1 _ rfl;have jo:=aO.out.cell 1 _ rfl;have cK:=aN.out.cell 2 _ rfl;have jq:=aO.out.cell 2 _ rfl;have cO:=aN.out.cell 3 _ rfl;have jr:=aO.out.cell 3 _ rfl;have cZ:=aN.out.cell 4 _ rfl;have jv:=aO.out.cell 4 _ rfl;have dh:=aN.out.cell 5 _ rfl;have jw:=aO.out.cell 5 _ rfl;have fZ:=aN.out.cell 6 _ rfl;have qm:=aO.out.cell 6 _ rfl;go_wp2_with fail;refine (C5.out _ aZ.out).mono ?_;rintro e y5 ⟨rfl,q5⟩;have iA:=Lib.hid (ah aZ.out q5 aZ.out.size);have dW:=Lib.hid (aN.out.below q5);have dX:=Lib.hid (aO.out.below q5);clear cB jm bZ jo cK jq cO jr cZ jv dh jw fZ qm;clear q5;have rW:=dW.out.cell 0 _ rfl;have Bp:=dX.out.cell 0 _ rfl;have rX:=dW.out.cell 1 _ rfl;have Bq:=dX.out.cell 1 _ rfl;have rY:=dW.out.cell 2 _ rfl;have Br:=dX.out.cell 2 _ rfl;have rZ:=dW.out.cell 3 _ rfl;have Bt:=dX.out.cell 3 _ rfl;have sj:=dW.out.cell 4 _ rfl;have Bu:=dX.out.cell 4 _ rfl;have su:=dW.out.cell 5 _ rfl;have Bv:=dX.out.cell 5 _ rfl;have xI:=dW.out.cell 6 _ rfl;have Gz:=dX.out.cell 6 _ rfl;go_wp2_with fail;go_ret;exact ⟨by rw [Hf.out]; rfl,iA.out⟩
  have EL:=Lib.hid h6;rw [← h6] at uW eT ⊢;clear h6;have n6 : ((a6.length : Int) != (a6.length : Int)) = false:=bne_self_eq_false _;go_enter Tryz.func13,Tryz.ntmps13;go_wp2_with fail;rw [← eT.out];refine (C1.out _ HB1.out).mono ?_;rintro e y1 ⟨rfl,q1⟩;have aZ:=Lib.hid (ah HB1.out q1 HB1.out.size);have aN:=Lib.hid (wC.out.below q1);have aO:=Lib.hid (uW.out.below q1);clear q1;have cB:=aN.out.cell 0 _ rfl;have jm:=aO.out.cell 0 _ rfl;have bZ:=aN.out.cell 1 _ rfl;have jo:=aO.out.cell 1 _ rfl;have cK:=aN.out.cell 2 _ rfl;have jq:=aO.out.cell 2 _ rfl;have cO:=aN.out.cell 3 _ rfl;have jr:=aO.out.cell 3 _ rfl;have cZ:=aN.out.cell 4 _ rfl;have jv:=aO.out.cell 4 _ rfl;have dh:=aN.out.cell 5 _ rfl;have jw:=aO.out.cell 5 _ rfl;have fZ:=aN.out.cell 6 _ rfl;have qm:=aO.out.cell 6 _ rfl;go_wp2_with fail;refine (C5.out _ aZ.out).mono ?_;rintro e y5 ⟨rfl,q5⟩;have iA:=Lib.hid (ah aZ.out q5 aZ.out.size);have dW:=Lib.hid (aN.out.below q5);have dX:=Lib.hid (aO.out.below q5);clear cB jm bZ jo cK jq cO jr cZ jv dh jw fZ qm;clear q5;have rW:=dW.out.cell 0 _ rfl;have Bp:=dX.out.cell 0 _ rfl;have rX:=dW.out.cell 1 _ rfl;have Bq:=dX.out.cell 1 _ rfl;have rY:=dW.out.cell 2 _ rfl;have Br:=dX.out.cell 2 _ rfl;have rZ:=dW.out.cell 3 _ rfl;have Bt:=dX.out.cell 3 _ rfl;have sj:=dW.out.cell 4 _ rfl;have Bu:=dX.out.cell 4 _ rfl;have su:=dW.out.cell 5 _ rfl;have Bv:=dX.out.cell 5 _ rfl;have xI:=dW.out.cell 6 _ rfl;have Gz:=dX.out.cell 6 _ rfl;go_wp2_with fail;clear rW Bp rX Bq rY Br rZ Bt sj Bu su Bv xI Gz
  go_loopw [5] (fun i wr=>∃ j : Nat,j ≤ a6.length ∧ i = .int .i64 j ∧ Hid (∀ q (h1 : q < a6.length) (h2 : q < b6.length),q < j → a6[q] = b6[q]) ∧ ∃ n,wr = y5.drewN n) (fun i _=>a6.length - (intOf i).toNat)
  case atStart=>exact ⟨0,Nat.zero_le _,rfl,fun _ _ _ h=>by omega,0,rfl⟩
  case round=>
    obtain ⟨j,hj,rfl,hall,n0,hwr⟩:=hrel;have Hw : Hid (∃ n,wr = y5.drewN n):=⟨n0,hwr⟩;have s1 : wr.cell? ⟨w.heap.size,6,none⟩ = some (.slice A6 a6.length c6):=(by rw [hwr]; exact dW.out.cell 6 _ rfl);have s2 : wr.cell? ⟨w.heap.size + 1,6,none⟩ = some (.slice B6 a6.length d6):=(by rw [hwr]; exact dX.out.cell 6 _ rfl);have hmx:=HM.out;unfold maxLen at hmx;by_cases hlt : j < a6.length
    · have hlb : j < b6.length:=(by rw [← EL.out]; exact hlt);obtain ⟨g1,o1,hA1,hg1,Ze,uU,jF,oI⟩:=(HKa.out.below iA.out).get hlt;obtain ⟨g2,o2,hA2,hg2,MH,jD,jG,eZ⟩:=(HKb.out.below iA.out).get hlb;obtain ⟨rfl,uV⟩:=aj.opened oI;obtain ⟨rfl,dZ⟩:=aj.opened eZ;have q0 : wr.cell? ⟨g1,o1 + j * 4,none⟩ = some (.string a6[j].key):=(by rw [hwr]; exact jF 0 _ rfl);have q1 : wr.cell? ⟨g1,o1 + j * 4 + 1,none⟩ = some (.bool a6[j].equal):=(by rw [hwr]; exact jF 1 _ rfl);have q2 : wr.cell? ⟨g1,o1 + j * 4 + 2,none⟩ = some (.string a6[j].value):=(by rw [hwr]; exact jF 2 _ rfl);have q3 : wr.cell? ⟨g1,o1 + j * 4 + 3,none⟩ = some (.int .i64 a6[j].effect):=(by rw [hwr]; exact jF 3 _ rfl);have r0 : wr.cell? ⟨g2,o2 + j * 4,none⟩ = some (.string b6[j].key):=(by rw [hwr]; exact jG 0 _ rfl);have r1 : wr.cell? ⟨g2,o2 + j * 4 + 1,none⟩ = some (.bool b6[j].equal):=(by rw [hwr]; exact jG 1 _ rfl);have r2 : wr.cell? ⟨g2,o2 + j * 4 + 2,none⟩ = some (.string b6[j].value):=(by rw [hwr]; exact jG 2 _ rfl);have r3 : wr.cell? ⟨g2,o2 + j * 4 + 3,none⟩ = some (.int .i64 b6[j].effect):=(by rw [hwr]; exact jG 3 _ rfl);subst hA1 hA2;have hj0 : (0 : Int) ≤ (j : Int):=(by omega);have hjn : (j : Int) < (a6.length : Int):=(by omega);clear oI eZ uU jD jF jG uV dZ hwr hg1 hg2;have fq:=Lib.hid (fun (h : ¬ a6[j] = b6[j])=>Hno.out fun h3=>h (by cases h3; rfl))
      have jK:=Lib.hid (fun (h : a6[j] = b6[j])=>show ∀ q (h1 : q < a6.length) (h2 : q < b6.length),q < j + 1 → a6[q] = b6[q] from fun q h1 h2 h3=>by
        by_cases e : q = j
        · subst e; exact h
        · exact hall.out q h1 h2 (by omega))
      clear hall;generalize a6[j] = x at q0 q1 q2 q3 fq jK;generalize b6[j] = y at r0 r1 r2 r3 fq jK;by_cases h0 : x.key = y.key
      case neg=>
        have Hf:=Lib.hid (fq.out fun h=>h0 (by rw [h]));have d0:=dH h0;clear fq jK Hno aG h0;obtain ⟨n1,hn1⟩:=Hw.out;have HZ:=Lib.hid (show Below w.heap.size w wr by rw [hn1]; exact below_drewN iA.out _);clear hn1;go_wp2_with fail
        go_quiet (fail)
        go_wp2_with fail;go_ret;exact ⟨by rw [Hf.out]; rfl,below_drewN HZ.out _⟩
      have d0:=cu h0;by_cases h1 : x.equal = y.equal
      case neg=>
        have Hf:=Lib.hid (fq.out fun h=>h1 (by rw [h]));have d1 : (x.equal == y.equal) = false:=beq_eq_false_iff_ne.2 h1;clear fq jK Hno aG h0 h1;obtain ⟨n1,hn1⟩:=Hw.out;have HZ:=Lib.hid (show Below w.heap.size w wr by rw [hn1]; exact below_drewN iA.out _);clear hn1;go_wp2_with fail
        go_quiet (fail)
        go_wp2_with fail;go_ret;exact ⟨by rw [Hf.out]; rfl,below_drewN HZ.out _⟩
      have d1 : (x.equal == y.equal) = true:=beq_iff_eq.2 h1;by_cases h2 : x.value = y.value
      case neg=>
        have Hf:=Lib.hid (fq.out fun h=>h2 (by rw [h]));have d2:=dH h2;clear fq jK Hno aG h0 h1 h2;obtain ⟨n1,hn1⟩:=Hw.out;have HZ:=Lib.hid (show Below w.heap.size w wr by rw [hn1]; exact below_drewN iA.out _);clear hn1;go_wp2_with fail
        go_quiet (fail)
        go_wp2_with fail;go_ret;exact ⟨by rw [Hf.out]; rfl,below_drewN HZ.out _⟩
      have d2:=cu h2;by_cases h3 : x.effect = y.effect
      case neg=>
        have Hf:=Lib.hid (fq.out fun h=>h3 (by rw [h]));have d3 : (x.effect == y.effect) = false:=beq_eq_false_iff_ne.2 h3;clear fq jK Hno aG h0 h1 h2 h3;obtain ⟨n1,hn1⟩:=Hw.out;have HZ:=Lib.hid (show Below w.heap.size w wr by rw [hn1]; exact below_drewN iA.out _);clear hn1;go_wp2_with fail
        go_quiet (fail)
        go_wp2_with fail;go_ret;exact ⟨by rw [Hf.out]; rfl,below_drewN HZ.out _⟩
      have d3 : (x.effect == y.effect) = true:=beq_iff_eq.2 h3;have Hn:=Lib.hid (jK.out (by cases x; cases y; simp only at *; subst h0; subst h1; subst h2; subst h3; rfl));clear fq jK Hno aG h0 h1 h2 h3;go_wp2_with fail
      go_quiet (fail)
      go_wp2_with fail
      go_roundw
      case rel=>exact ⟨j + 1,by omega,by go_num,Hn.out,dU Hw.out _⟩
      case measure=>simp [intOf]; omega
    · obtain rfl : j = a6.length:=(by omega);have hL : a6 = b6:=List.ext_getElem EL.out (fun i h1 h2=>hall.out i h1 h2 h1);have Hf:=Lib.hid (aG.out (by rw [E0.out,E1.out,E2.out,E3.out,E4.out,E5.out,hL]));have HZ:=Lib.hid (show Below w.heap.size w wr by rw [hwr]; exact below_drewN iA.out _);clear hL hall hwr Hno aG;go_wp2_with fail;go_ret;exact ⟨by rw [Hf.out]; rfl,HZ.out⟩
end pod
namespace pod
open Go.ChangeShapes Go.WideShapes Go.ChangeAt Go.RowKit ty lab need
set_option maxRecDepth 100000 in
set_option maxHeartbeats 32000000 in
theorem Bw (x y : Host) (f1 f2 : Nat) (us vs : List Value) (w : World) (hx : aH w f1 us x.row) (hy : aH w f2 vs y.row) :
    Calls Tryz.prog 14 #[.agg us.toArray,.agg vs.toArray] w fun e w'=>e = .returned (.bool (yes (x = y))) ∧ Below w.heap.size w w':=by
  obtain ⟨R,hR⟩ : ∃ R,yes (x = y) = R:=⟨_,rfl⟩;rw [hR];have Hno : Hid (¬ x = y → R = false):=fun h=>by rw [← hR]; exact aP h
  have aG : Hid (x = y → R = true):=fun h=>by rw [← hR]; exact aQ h
  clear hR;obtain ⟨a0,a1,a2,a3,a4,a5⟩:=x;obtain ⟨b0,b1,b2,b3,b4,b5⟩:=y;obtain ⟨A1,c1,A5,c5,rfl,hwf,k1,m1,l1,k5,m5,l5⟩:=Host.opened hx;obtain ⟨B1,d1,B5,d5,rfl,dZ,OT,OU,r1,OV,OW,r5⟩:=Host.opened hy;simp only at k1 m1 l1 OT OU r1 k5 m5 l5 OV OW r5;obtain ⟨_,_,e1,_,_,f1,rfl,hka⟩:=bD av.au l5;injection e1 with e1 _ e2;subst e1 e2;obtain ⟨_,_,e1,_,_,f2,rfl,hkb⟩:=bD av.au r5;injection e1 with e1 _ e2;subst e1 e2;obtain ⟨w1,hw1⟩ : ∃ w1,w1 = (w.alloc (.cells #[.string a0,.slice A1 a1.length c1,.int .i64 a2,.int .i64 a3,.int .i64 a4,.slice A5 a5.length c5] 32)).alloc (.cells #[.string b0,.slice B1 b1.length d1,.int .i64 b2,.int .i64 b3,.int .i64 b4,.slice B5 b5.length d5] 32):=⟨_,rfl⟩;have hb1 : Below w.heap.size w w1:=(by rw [hw1]; exact ((Below.refl _ _).alloc (Nat.le_refl _) _).alloc (by simp) _);have wC:=Lib.hid (show aC 32 w1 w.heap.size [.string a0,.slice A1 a1.length c1,.int .i64 a2,.int .i64 a3,.int .i64 a4,.slice A5 a5.length c5] by rw [hw1]; exact (aC.new _ _ _).alloc)
  have uW:=Lib.hid (show aC 32 w1 (w.heap.size + 1) [.string b0,.slice B1 b1.length d1,.int .i64 b2,.int .i64 b3,.int .i64 b4,.slice B5 b5.length d5] by
    have h:=aC.new 32 (w.alloc (.cells #[.string a0,.slice A1 a1.length c1,.int .i64 a2,.int .i64 a3,.int .i64 a4,.slice A5 a5.length c5] 32)) [.string b0,.slice B1 b1.length d1,.int .i64 b2,.int .i64 b3,.int .i64 b4,.slice B5 b5.length d5];rw [show (w.alloc (.cells #[.string a0,.slice A1 a1.length c1,.int .i64 a2,.int .i64 a3,.int .i64 a4,.slice A5 a5.length c5] 32)).heap.size = w.heap.size + 1 by simp] at h;rw [hw1]; exact h)
  have eT:=Lib.hid hw1;have C1:=Lib.hid (fun w' (hb : Below w.heap.size w w')=>x9 a1 b1 _ _ _ _ w' (l1.below hb) (r1.below hb));have HB1:=Lib.hid hb1;have HKa:=Lib.hid hka;have HKb:=Lib.hid hkb;have HM : Hid (a5.length ≤ maxLen):=Nat.le_trans k5 m5;clear hx hy hwf dZ hb1 hw1 hka hkb k1 m1 l1 OT OU r1 k5 m5 l5 OV OW r5;by_cases h0 : a0 = b0
  case neg=>
    have Hf:=Lib.hid (Hno.out fun h=>h0 (by cases h; rfl));clear Hno aG;have n0:=dH h0;clear h0;go_enter Tryz.func14,Tryz.ntmps14;go_wp2_with fail;rw [← eT.out];go_ret;exact ⟨by rw [Hf.out]; rfl,HB1.out⟩
  have n0:=cu h0;have E0:=Lib.hid h0;clear h0;by_cases h1 : a1 = b1
  case neg=>
    have Hf:=Lib.hid (Hno.out fun h=>h1 (by cases h; rfl));clear Hno aG;rw [aP h1] at C1;clear h1;go_enter Tryz.func14,Tryz.ntmps14;go_wp2_with fail;rw [← eT.out];refine (C1.out _ HB1.out).mono ?_;rintro e y1 ⟨rfl,q1⟩;have aZ:=Lib.hid (ah HB1.out q1 HB1.out.size);have aN:=Lib.hid (wC.out.below q1);have aO:=Lib.hid (uW.out.below q1);clear q1;have cB:=aN.out.cell 0 _ rfl;have jm:=aO.out.cell 0 _ rfl;have bZ:=aN.out.cell 1 _ rfl;have jo:=aO.out.cell 1 _ rfl;have cK:=aN.out.cell 2 _ rfl;have jq:=aO.out.cell 2 _ rfl;have cO:=aN.out.cell 3 _ rfl;have jr:=aO.out.cell 3 _ rfl;have cZ:=aN.out.cell 4 _ rfl;have jv:=aO.out.cell 4 _ rfl;have dh:=aN.out.cell 5 _ rfl;have jw:=aO.out.cell 5 _ rfl;go_wp2_with fail;go_ret;exact ⟨by rw [Hf.out]; rfl,aZ.out⟩
  rw [aQ h1] at C1;have E1:=Lib.hid h1;clear h1;by_cases h2 : a2 = b2
  case neg=>
    have Hf:=Lib.hid (Hno.out fun h=>h2 (by cases h; rfl));clear Hno aG;have n2 : (a2 != b2) = true:=bne_iff_ne.2 h2;have o2 : (a2 == b2) = false:=beq_eq_false_iff_ne.2 h2;clear h2;go_enter Tryz.func14,Tryz.ntmps14;go_wp2_with fail;rw [← eT.out];refine (C1.out _ HB1.out).mono ?_;rintro e y1 ⟨rfl,q1⟩;have aZ:=Lib.hid (ah HB1.out q1 HB1.out.size);have aN:=Lib.hid (wC.out.below q1);have aO:=Lib.hid (uW.out.below q1);clear q1;have cB:=aN.out.cell 0 _ rfl;have jm:=aO.out.cell 0 _ rfl;have bZ:=aN.out.cell 1 _ rfl;have jo:=aO.out.cell 1 _ rfl;have cK:=aN.out.cell 2 _ rfl;have jq:=aO.out.cell 2 _ rfl;have cO:=aN.out.cell 3 _ rfl;have jr:=aO.out.cell 3 _ rfl;have cZ:=aN.out.cell 4 _ rfl;have jv:=aO.out.cell 4 _ rfl;have dh:=aN.out.cell 5 _ rfl;have jw:=aO.out.cell 5 _ rfl;go_wp2_with fail;go_ret;exact ⟨by rw [Hf.out]; rfl,aZ.out⟩
  have n2 : (a2 != b2) = false:=(by rw [h2]; exact bne_self_eq_false _);have o2 : (a2 == b2) = true:=beq_iff_eq.2 h2;have E2:=Lib.hid h2;clear h2;by_cases h3 : a3 = b3
  case neg=>
    have Hf:=Lib.hid (Hno.out fun h=>h3 (by cases h; rfl));clear Hno aG;have n3 : (a3 != b3) = true:=bne_iff_ne.2 h3;have o3 : (a3 == b3) = false:=beq_eq_false_iff_ne.2 h3;clear h3;go_enter Tryz.func14,Tryz.ntmps14;go_wp2_with fail;rw [← eT.out];refine (C1.out _ HB1.out).mono ?_;rintro e y1 ⟨rfl,q1⟩;have aZ:=Lib.hid (ah HB1.out q1 HB1.out.size);have aN:=Lib.hid (wC.out.below q1);have aO:=Lib.hid (uW.out.below q1);clear q1;have cB:=aN.out.cell 0 _ rfl;have jm:=aO.out.cell 0 _ rfl;have bZ:=aN.out.cell 1 _ rfl;have jo:=aO.out.cell 1 _ rfl;have cK:=aN.out.cell 2 _ rfl;have jq:=aO.out.cell 2 _ rfl;have cO:=aN.out.cell 3 _ rfl;have jr:=aO.out.cell 3 _ rfl;have cZ:=aN.out.cell 4 _ rfl;have jv:=aO.out.cell 4 _ rfl;have dh:=aN.out.cell 5 _ rfl;have jw:=aO.out.cell 5 _ rfl;go_wp2_with fail;go_ret;exact ⟨by rw [Hf.out]; rfl,aZ.out⟩
  have n3 : (a3 != b3) = false:=(by rw [h3]; exact bne_self_eq_false _);have o3 : (a3 == b3) = true:=beq_iff_eq.2 h3;have E3:=Lib.hid h3;clear h3;by_cases h4 : a4 = b4
  case neg=>
    have Hf:=Lib.hid (Hno.out fun h=>h4 (by cases h; rfl));clear Hno aG;have n4 : (a4 != b4) = true:=bne_iff_ne.2 h4;have o4 : (a4 == b4) = false:=beq_eq_false_iff_ne.2 h4;clear h4;go_enter Tryz.func14,Tryz.ntmps14;go_wp2_with fail;rw [← eT.out];refine (C1.out _ HB1.out).mono ?_;rintro e y1 ⟨rfl,q1⟩;have aZ:=Lib.hid (ah HB1.out q1 HB1.out.size);have aN:=Lib.hid (wC.out.below q1);have aO:=Lib.hid (uW.out.below q1);clear q1;have cB:=aN.out.cell 0 _ rfl;have jm:=aO.out.cell 0 _ rfl;have bZ:=aN.out.cell 1 _ rfl;have jo:=aO.out.cell 1 _ rfl;have cK:=aN.out.cell 2 _ rfl;have jq:=aO.out.cell 2 _ rfl;have cO:=aN.out.cell 3 _ rfl;have jr:=aO.out.cell 3 _ rfl;have cZ:=aN.out.cell 4 _ rfl;have jv:=aO.out.cell 4 _ rfl;have dh:=aN.out.cell 5 _ rfl;have jw:=aO.out.cell 5 _ rfl;go_wp2_with fail;go_ret;exact ⟨by rw [Hf.out]; rfl,aZ.out⟩
  have n4 : (a4 != b4) = false:=(by rw [h4]; exact bne_self_eq_false _);have o4 : (a4 == b4) = true:=beq_iff_eq.2 h4;have E4:=Lib.hid h4;clear h4;by_cases h5 : a5.length = b5.length
  case neg=>
    have Hf:=Lib.hid (Hno.out fun h=>h5 (by cases h; rfl));clear Hno aG;have n5 : ((a5.length : Int) != (b5.length : Int)) = true:=bne_iff_ne.2 (by omega);clear h5;go_enter Tryz.func14,Tryz.ntmps14;go_wp2_with fail;rw [← eT.out];refine (C1.out _ HB1.out).mono ?_;rintro e y1 ⟨rfl,q1⟩;have aZ:=Lib.hid (ah HB1.out q1 HB1.out.size);have aN:=Lib.hid (wC.out.below q1);have aO:=Lib.hid (uW.out.below q1);clear q1;have cB:=aN.out.cell 0 _ rfl;have jm:=aO.out.cell 0 _ rfl;have bZ:=aN.out.cell 1 _ rfl;have jo:=aO.out.cell 1 _ rfl;have cK:=aN.out.cell 2 _ rfl;have jq:=aO.out.cell 2 _ rfl;have cO:=aN.out.cell 3 _ rfl;have jr:=aO.out.cell 3 _ rfl;have cZ:=aN.out.cell 4 _ rfl;have jv:=aO.out.cell 4 _ rfl;have dh:=aN.out.cell 5 _ rfl;have jw:=aO.out.cell 5 _ rfl;go_wp2_with fail;go_ret;exact ⟨by rw [Hf.out]; rfl,aZ.out⟩
  have EL:=Lib.hid h5;rw [← h5] at uW eT ⊢;clear h5;have n5 : ((a5.length : Int) != (a5.length : Int)) = false:=bne_self_eq_false _;go_enter Tryz.func14,Tryz.ntmps14;go_wp2_with fail;rw [← eT.out];refine (C1.out _ HB1.out).mono ?_;rintro e y1 ⟨rfl,q1⟩;have aZ:=Lib.hid (ah HB1.out q1 HB1.out.size);have aN:=Lib.hid (wC.out.below q1);have aO:=Lib.hid (uW.out.below q1);clear q1;have cB:=aN.out.cell 0 _ rfl;have jm:=aO.out.cell 0 _ rfl;have bZ:=aN.out.cell 1 _ rfl;have jo:=aO.out.cell 1 _ rfl;have cK:=aN.out.cell 2 _ rfl;have jq:=aO.out.cell 2 _ rfl;have cO:=aN.out.cell 3 _ rfl;have jr:=aO.out.cell 3 _ rfl;have cZ:=aN.out.cell 4 _ rfl;have jv:=aO.out.cell 4 _ rfl;have dh:=aN.out.cell 5 _ rfl;have jw:=aO.out.cell 5 _ rfl;go_wp2_with fail;clear cB jm bZ jo cK jq cO jr cZ jv dh jw
  go_loopw [5] (fun i wr=>∃ j : Nat,j ≤ a5.length ∧ i = .int .i64 j ∧ Hid (∀ q (h1 : q < a5.length) (h2 : q < b5.length),q < j → a5[q] = b5[q]) ∧ ∃ n,wr = y1.drewN n) (fun i _=>a5.length - (intOf i).toNat)
  case atStart=>exact ⟨0,Nat.zero_le _,rfl,fun _ _ _ h=>by omega,0,rfl⟩
  case round=>
    obtain ⟨j,hj,rfl,hall,n0,hwr⟩:=hrel;have Hw : Hid (∃ n,wr = y1.drewN n):=⟨n0,hwr⟩;have s1 : wr.cell? ⟨w.heap.size,5,none⟩ = some (.slice A5 a5.length c5):=(by rw [hwr]; exact aN.out.cell 5 _ rfl);have s2 : wr.cell? ⟨w.heap.size + 1,5,none⟩ = some (.slice B5 a5.length d5):=(by rw [hwr]; exact aO.out.cell 5 _ rfl);have hmx:=HM.out;unfold maxLen at hmx;by_cases hlt : j < a5.length
    · have hlb : j < b5.length:=(by rw [← EL.out]; exact hlt);obtain ⟨g1,o1,hA1,hg1,Ze,uU,jF,oI⟩:=(HKa.out.below aZ.out).get hlt;obtain ⟨g2,o2,hA2,hg2,MH,jD,jG,eZ⟩:=(HKb.out.below aZ.out).get hlb;obtain ⟨rfl,uV⟩:=av.opened oI;obtain ⟨rfl,dZ⟩:=av.opened eZ;have q0 : wr.cell? ⟨g1,o1 + j * 3,none⟩ = some (.string a5[j].key):=(by rw [hwr]; exact jF 0 _ rfl);have q1 : wr.cell? ⟨g1,o1 + j * 3 + 1,none⟩ = some (.string a5[j].value):=(by rw [hwr]; exact jF 1 _ rfl);have q2 : wr.cell? ⟨g1,o1 + j * 3 + 2,none⟩ = some (.int .i64 a5[j].effect):=(by rw [hwr]; exact jF 2 _ rfl);have r0 : wr.cell? ⟨g2,o2 + j * 3,none⟩ = some (.string b5[j].key):=(by rw [hwr]; exact jG 0 _ rfl);have r1 : wr.cell? ⟨g2,o2 + j * 3 + 1,none⟩ = some (.string b5[j].value):=(by rw [hwr]; exact jG 1 _ rfl);have r2 : wr.cell? ⟨g2,o2 + j * 3 + 2,none⟩ = some (.int .i64 b5[j].effect):=(by rw [hwr]; exact jG 2 _ rfl);subst hA1 hA2;have hj0 : (0 : Int) ≤ (j : Int):=(by omega);have hjn : (j : Int) < (a5.length : Int):=(by omega);clear oI eZ uU jD jF jG uV dZ hwr hg1 hg2;have fq:=Lib.hid (fun (h : ¬ a5[j] = b5[j])=>Hno.out fun h3=>h (by cases h3; rfl))
      have jK:=Lib.hid (fun (h : a5[j] = b5[j])=>show ∀ q (h1 : q < a5.length) (h2 : q < b5.length),q < j + 1 → a5[q] = b5[q] from fun q h1 h2 h3=>by
        by_cases e : q = j
        · subst e; exact h
        · exact hall.out q h1 h2 (by omega))
      clear hall;generalize a5[j] = x at q0 q1 q2 fq jK;generalize b5[j] = y at r0 r1 r2 fq jK;by_cases h0 : x.key = y.key
      case neg=>
        have Hf:=Lib.hid (fq.out fun h=>h0 (by rw [h]));have d0:=dH h0;clear fq jK Hno aG h0;obtain ⟨n1,hn1⟩:=Hw.out;have HZ:=Lib.hid (show Below w.heap.size w wr by rw [hn1]; exact below_drewN aZ.out _);clear hn1;go_wp2_with fail
        go_quiet (fail)
        go_wp2_with fail;go_ret;exact ⟨by rw [Hf.out]; rfl,below_drewN HZ.out _⟩
      have d0:=cu h0;by_cases h1 : x.value = y.value
      case neg=>
        have Hf:=Lib.hid (fq.out fun h=>h1 (by rw [h]));have d1:=dH h1;clear fq jK Hno aG h0 h1;obtain ⟨n1,hn1⟩:=Hw.out;have HZ:=Lib.hid (show Below w.heap.size w wr by rw [hn1]; exact below_drewN aZ.out _);clear hn1;go_wp2_with fail
        go_quiet (fail)
        go_wp2_with fail;go_ret;exact ⟨by rw [Hf.out]; rfl,below_drewN HZ.out _⟩
      have d1:=cu h1;by_cases h2 : x.effect = y.effect
      case neg=>
        have Hf:=Lib.hid (fq.out fun h=>h2 (by rw [h]));have d2 : (x.effect == y.effect) = false:=beq_eq_false_iff_ne.2 h2;clear fq jK Hno aG h0 h1 h2;obtain ⟨n1,hn1⟩:=Hw.out;have HZ:=Lib.hid (show Below w.heap.size w wr by rw [hn1]; exact below_drewN aZ.out _);clear hn1;go_wp2_with fail
        go_quiet (fail)
        go_wp2_with fail;go_ret;exact ⟨by rw [Hf.out]; rfl,below_drewN HZ.out _⟩
      have d2 : (x.effect == y.effect) = true:=beq_iff_eq.2 h2;have Hn:=Lib.hid (jK.out (by cases x; cases y; simp only at *; subst h0; subst h1; subst h2; rfl));clear fq jK Hno aG h0 h1 h2;go_wp2_with fail
      go_quiet (fail)
      go_wp2_with fail
      go_roundw
      case rel=>exact ⟨j + 1,by omega,by go_num,Hn.out,dU Hw.out _⟩
      case measure=>simp [intOf]; omega
    · obtain rfl : j = a5.length:=(by omega);have hL : a5 = b5:=List.ext_getElem EL.out (fun i h1 h2=>hall.out i h1 h2 h1);have Hf:=Lib.hid (aG.out (by rw [E0.out,E1.out,E2.out,E3.out,E4.out,hL]));have HZ:=Lib.hid (show Below w.heap.size w wr by rw [hwr]; exact below_drewN aZ.out _);clear hL hall hwr Hno aG;go_wp2_with fail;go_ret;exact ⟨by rw [Hf.out]; rfl,HZ.out⟩
end pod
namespace pod
open Go.ChangeShapes Go.WideShapes Go.ChangeAt Go.RowKit ty lab
set_option maxRecDepth 100000 in
set_option maxHeartbeats 8000000 in
theorem wD (a b : List aj) (f1 f2 : Nat) (v1 v2 : Value) (w : World) (h1 : bf w f1 v1 (.sl 4 a.length (a.flatMap aj.row))) (h2 : bf w f2 v2 (.sl 4 b.length (b.flatMap aj.row))) :
    Calls Tryz.prog 58 #[v1,v2] w fun e w'=>e = .returned (.bool (yes (a = b))) ∧ Below w.heap.size w w':=by
  obtain ⟨A1,c1,rfl,hc1,hm1,f',rfl,hk1⟩:=bD aj.au h1;obtain ⟨A2,c2,rfl,hc2,hm2,f'',rfl,hk2⟩:=bD aj.au h2;unfold maxLen at hm1 hm2;obtain ⟨R,hR⟩ : ∃ R,yes (a = b) = R:=⟨_,rfl⟩;rw [hR];have Hno : Hid (¬ a = b → R = false):=fun h=>by rw [← hR]; exact aP h
  have aG : Hid (a = b → R = true):=fun h=>by rw [← hR]; exact aQ h
  have J2:=Lib.hid hk1;have J3:=Lib.hid hk2;clear h1 h2 hk1 hk2 hR;by_cases hl : a.length = b.length
  case neg=>
    have Hf:=Lib.hid (Hno.out fun h=>hl (by rw [h]));have hn : ((a.length : Int) != (b.length : Int)) = true:=bne_iff_ne.2 (by omega);clear hl Hno aG;go_enter Tryz.func58,Tryz.ntmps58;go_wp2_with fail;go_ret;exact ⟨by rw [Hf.out]; rfl,Below.refl _ _⟩
  obtain ⟨n,hn⟩ : ∃ n,n = a.length:=⟨_,rfl⟩;have hb : b.length = n:=(by omega);rw [← hn] at hc1;rw [hb] at hc2;rw [← hn,hb];have Hn:=Lib.hid hn;have Hb:=Lib.hid hb;clear hn hb hl;go_enter Tryz.func58,Tryz.ntmps58;go_wp2_with fail
  go_loopw [13] (fun i wr=>∃ j : Nat,j ≤ n ∧ i = .int .i64 j ∧ Hid (∀ q (h1 : q < a.length) (h2 : q < b.length),q < j → a[q] = b[q]) ∧ ∃ n,wr = w.drewN n) (fun i _=>n - (intOf i).toNat)
  case atStart=>exact ⟨0,Nat.zero_le _,rfl,fun _ _ _ h=>by omega,0,rfl⟩
  case round=>
    obtain ⟨j,hj,rfl,hall,n0,hwr⟩:=hrel;have Hw : Hid (∃ n,wr = w.drewN n):=⟨n0,hwr⟩;by_cases hlt : j < n
    · have hla : j < a.length:=(by rw [← Hn.out]; exact hlt);have hlb : j < b.length:=(by rw [Hb.out]; exact hlt);obtain ⟨g1,o1,hA1,hg1,Ze,uU,jF,oI⟩:=J2.out.get hla;obtain ⟨g2,o2,hA2,hg2,MH,jD,jG,eZ⟩:=J3.out.get hlb;obtain ⟨rfl,uV⟩:=aj.opened oI;obtain ⟨rfl,dZ⟩:=aj.opened eZ;have q0 : wr.cell? ⟨g1,o1 + j * 4,none⟩ = some (.string a[j].key):=(by rw [hwr]; exact jF 0 _ rfl);have q1 : wr.cell? ⟨g1,o1 + j * 4 + 1,none⟩ = some (.bool a[j].equal):=(by rw [hwr]; exact jF 1 _ rfl);have q2 : wr.cell? ⟨g1,o1 + j * 4 + 2,none⟩ = some (.string a[j].value):=(by rw [hwr]; exact jF 2 _ rfl);have q3 : wr.cell? ⟨g1,o1 + j * 4 + 3,none⟩ = some (.int .i64 a[j].effect):=(by rw [hwr]; exact jF 3 _ rfl);have r0 : wr.cell? ⟨g2,o2 + j * 4,none⟩ = some (.string b[j].key):=(by rw [hwr]; exact jG 0 _ rfl);have r1 : wr.cell? ⟨g2,o2 + j * 4 + 1,none⟩ = some (.bool b[j].equal):=(by rw [hwr]; exact jG 1 _ rfl);have r2 : wr.cell? ⟨g2,o2 + j * 4 + 2,none⟩ = some (.string b[j].value):=(by rw [hwr]; exact jG 2 _ rfl);have r3 : wr.cell? ⟨g2,o2 + j * 4 + 3,none⟩ = some (.int .i64 b[j].effect):=(by rw [hwr]; exact jG 3 _ rfl);subst hA1 hA2;have hj0 : (0 : Int) ≤ (j : Int):=(by omega);have hjn : (j : Int) < (n : Int):=(by omega);clear oI eZ uU jD jF jG uV dZ hwr hg1 hg2;have fq:=Lib.hid (fun (h : ¬ a[j] = b[j])=>Hno.out fun h3=>h (by subst h3; rfl))
      have jK:=Lib.hid (fun (h : a[j] = b[j])=>show ∀ q (h1 : q < a.length) (h2 : q < b.length),q < j + 1 → a[q] = b[q] from fun q h1 h2 h3=>by
        by_cases e : q = j
        · subst e; exact h
        · exact hall.out q h1 h2 (by omega))
      clear hall;generalize a[j] = x at q0 q1 q2 q3 fq jK;generalize b[j] = y at r0 r1 r2 r3 fq jK;clear hla hlb;by_cases h0 : x.key = y.key
      case neg=>
        have Hf:=Lib.hid (fq.out fun h=>h0 (by rw [h]));have d0:=dH h0;clear fq jK Hno aG h0;obtain ⟨n1,hn1⟩:=Hw.out;have HZ:=Lib.hid (show Below w.heap.size w wr by rw [hn1]; exact below_drewN (Below.refl _ _) _);clear hn1;go_wp2_with fail
        go_quiet (fail)
        go_wp2_with fail;go_ret;exact ⟨by rw [Hf.out]; rfl,below_drewN HZ.out _⟩
      have d0:=cu h0;by_cases h1 : x.equal = y.equal
      case neg=>
        have Hf:=Lib.hid (fq.out fun h=>h1 (by rw [h]));have d1 : (x.equal == y.equal) = false:=beq_eq_false_iff_ne.2 h1;clear fq jK Hno aG h0 h1;obtain ⟨n1,hn1⟩:=Hw.out;have HZ:=Lib.hid (show Below w.heap.size w wr by rw [hn1]; exact below_drewN (Below.refl _ _) _);clear hn1;go_wp2_with fail
        go_quiet (fail)
        go_wp2_with fail;go_ret;exact ⟨by rw [Hf.out]; rfl,below_drewN HZ.out _⟩
      have d1 : (x.equal == y.equal) = true:=beq_iff_eq.2 h1;by_cases h2 : x.value = y.value
      case neg=>
        have Hf:=Lib.hid (fq.out fun h=>h2 (by rw [h]));have d2:=dH h2;clear fq jK Hno aG h0 h1 h2;obtain ⟨n1,hn1⟩:=Hw.out;have HZ:=Lib.hid (show Below w.heap.size w wr by rw [hn1]; exact below_drewN (Below.refl _ _) _);clear hn1;go_wp2_with fail
        go_quiet (fail)
        go_wp2_with fail;go_ret;exact ⟨by rw [Hf.out]; rfl,below_drewN HZ.out _⟩
      have d2:=cu h2;by_cases h3 : x.effect = y.effect
      case neg=>
        have Hf:=Lib.hid (fq.out fun h=>h3 (by rw [h]));have d3 : (x.effect == y.effect) = false:=beq_eq_false_iff_ne.2 h3;clear fq jK Hno aG h0 h1 h2 h3;obtain ⟨n1,hn1⟩:=Hw.out;have HZ:=Lib.hid (show Below w.heap.size w wr by rw [hn1]; exact below_drewN (Below.refl _ _) _);clear hn1;go_wp2_with fail
        go_quiet (fail)
        go_wp2_with fail;go_ret;exact ⟨by rw [Hf.out]; rfl,below_drewN HZ.out _⟩
      have d3 : (x.effect == y.effect) = true:=beq_iff_eq.2 h3;have Hq:=Lib.hid (jK.out (by cases x; cases y; simp only at *; subst h0; subst h1; subst h2; subst h3; rfl));clear fq jK Hno aG h0 h1 h2 h3;go_wp2_with fail
      go_quiet (fail)
      go_wp2_with fail
      go_roundw
      case rel=>exact ⟨j + 1,by omega,by go_num,Hq.out,dU Hw.out _⟩
      case measure=>simp [intOf]; omega
    · obtain rfl : j = n:=(by omega);have hL : a = b:=List.ext_getElem (by rw [Hb.out,Hn.out]) (fun i h1 h2=>hall.out i h1 h2 (by rw [Hn.out]; exact h1));have Hf:=Lib.hid (aG.out hL);have HZ:=Lib.hid (show Below w.heap.size w wr by rw [hwr]; exact below_drewN (Below.refl _ _) _);clear hL hall hwr Hno aG;go_wp2_with fail;go_ret;exact ⟨by rw [Hf.out]; rfl,HZ.out⟩
end pod
end Go.Proofs.YtcfbkfmkjggcdaaGreatDoor
