/- Merged: SameHostI SumsM SumsT SumsI StPod StHost PodW. -/
import Derived.Test.YtcfbkfmkjggcdaaGreatDoorGA9
import Derived.Test.YtcfbkfmkjggcdaaGreatDoorGA23
import Derived.Test.YtcfbkfmkjggcdaaGreatDoorGA5
import Derived.Test.YtcfbkfmkjggcdaaGreatDoorGA6
import Derived.Test.YtcfbkfmkjggcdaaGreatDoorGA0
import Derived.Laws.Cover1
import Derived.Test.YtcfbkfmkjggcdaaGreatDoorGA14
import Derived.Test.YtcfbkfmkjggcdaaGreatDoorGA1
import Derived.Test.YtcfbkfmkjggcdaaGreatDoorGA4
import Derived.Test.YtcfbkfmkjggcdaaGreatDoorGA3
import Derived.Test.YtcfbkfmkjggcdaaGreatDoorIntInfo
import Derived.OwnWalk
import Derived.Test.YtcfbkfmkjggcdaaGreatDoorGA15
import Derived.Test.YtcfbkfmkjggcdaaGreatDoorGA8
set_option linter.unusedVariables false
namespace Go.Proofs.YtcfbkfmkjggcdaaGreatDoor
namespace pod
open Go.ChangeShapes Go.WideShapes Go.ChangeAt Go.RowKit ty lab
set_option maxRecDepth 100000 in
set_option maxHeartbeats 32000000 in
theorem BA (x y : Host) (f1 f2 : Nat) (us vs : List Value) (w : World) (hx : aH w f1 us x.row) (hy : aH w f2 vs y.row) :
    Calls Tryz.prog 19 #[.agg us.toArray,.agg vs.toArray] w fun e w'=>e = .returned (.bool (yes (x = y))) ∧ Below w.heap.size w w':=by
  obtain ⟨R,hR⟩ : ∃ R,yes (x = y) = R:=⟨_,rfl⟩;rw [hR];have Hno : Hid (¬ x = y → R = false):=fun h=>by rw [← hR]; exact aP h
  have aG : Hid (x = y → R = true):=fun h=>by rw [← hR]; exact aQ h
  clear hR;obtain ⟨a0,a1,a2,a3,a4,a5⟩:=x;obtain ⟨b0,b1,b2,b3,b4,b5⟩:=y;obtain ⟨A1,c1,A5,c5,rfl,hwf,k1,m1,l1,k5,m5,l5⟩:=Host.opened hx;obtain ⟨B1,d1,B5,d5,rfl,dZ,OT,OU,r1,OV,OW,r5⟩:=Host.opened hy;simp only at k1 m1 l1 OT OU r1 k5 m5 l5 OV OW r5;obtain ⟨w1,hw1⟩ : ∃ w1,w1 = (w.alloc (.cells #[.string a0,.slice A1 a1.length c1,.int .i64 a2,.int .i64 a3,.int .i64 a4,.slice A5 a5.length c5] 32)).alloc (.cells #[.string b0,.slice B1 b1.length d1,.int .i64 b2,.int .i64 b3,.int .i64 b4,.slice B5 b5.length d5] 32):=⟨_,rfl⟩;have hb1 : Below w.heap.size w w1:=(by rw [hw1]; exact ((Below.refl _ _).alloc (Nat.le_refl _) _).alloc (by simp) _);have wC:=Lib.hid (show aC 32 w1 w.heap.size [.string a0,.slice A1 a1.length c1,.int .i64 a2,.int .i64 a3,.int .i64 a4,.slice A5 a5.length c5] by rw [hw1]; exact (aC.new _ _ _).alloc)
  have uW:=Lib.hid (show aC 32 w1 (w.heap.size + 1) [.string b0,.slice B1 b1.length d1,.int .i64 b2,.int .i64 b3,.int .i64 b4,.slice B5 b5.length d5] by
    have h:=aC.new 32 (w.alloc (.cells #[.string a0,.slice A1 a1.length c1,.int .i64 a2,.int .i64 a3,.int .i64 a4,.slice A5 a5.length c5] 32)) [.string b0,.slice B1 b1.length d1,.int .i64 b2,.int .i64 b3,.int .i64 b4,.slice B5 b5.length d5];rw [show (w.alloc (.cells #[.string a0,.slice A1 a1.length c1,.int .i64 a2,.int .i64 a3,.int .i64 a4,.slice A5 a5.length c5] 32)).heap.size = w.heap.size + 1 by simp] at h;rw [hw1]; exact h)
  have eT:=Lib.hid hw1;have C1:=Lib.hid (fun w' (hb : Below w.heap.size w w')=>Em a1 b1 _ _ _ _ w' (l1.below hb) (r1.below hb));have C5:=Lib.hid (fun w' (hb : Below w.heap.size w w')=>Bz a5 b5 _ _ _ _ w' (l5.below hb) (r5.below hb));have HB1:=Lib.hid hb1;clear hx hy hwf dZ hb1 hw1 k1 m1 l1 OT OU r1 k5 m5 l5 OV OW r5;by_cases h0 : a0 = b0
  case neg=>
    have Hf:=Lib.hid (Hno.out fun h=>h0 (by cases h; rfl));clear Hno aG;have n0:=dH h0;clear h0;go_enter Tryz.func19,Tryz.ntmps19;go_wp2_with fail;rw [← eT.out];go_ret;exact ⟨by rw [Hf.out]; rfl,HB1.out⟩
  have n0:=cu h0;have E0:=Lib.hid h0;clear h0;by_cases h1 : a1 = b1
  case neg=>
    have Hf:=Lib.hid (Hno.out fun h=>h1 (by cases h; rfl));clear Hno aG;rw [aP h1] at C1;clear h1;go_enter Tryz.func19,Tryz.ntmps19;go_wp2_with fail;rw [← eT.out];refine (C1.out _ HB1.out).mono ?_;rintro e y1 ⟨rfl,q1⟩;have aZ:=Lib.hid (ah HB1.out q1 HB1.out.size);have aN:=Lib.hid (wC.out.below q1);have aO:=Lib.hid (uW.out.below q1);clear q1;have cB:=aN.out.cell 0 _ rfl;have jm:=aO.out.cell 0 _ rfl;have bZ:=aN.out.cell 1 _ rfl;have jo:=aO.out.cell 1 _ rfl;have cK:=aN.out.cell 2 _ rfl;have jq:=aO.out.cell 2 _ rfl;have cO:=aN.out.cell 3 _ rfl;have jr:=aO.out.cell 3 _ rfl;have cZ:=aN.out.cell 4 _ rfl;have jv:=aO.out.cell 4 _ rfl;have dh:=aN.out.cell 5 _ rfl;have jw:=aO.out.cell 5 _ rfl;go_wp2_with fail;go_ret;exact ⟨by rw [Hf.out]; rfl,aZ.out⟩
  rw [aQ h1] at C1;have E1:=Lib.hid h1;clear h1;by_cases h2 : a2 = b2
  case neg=>
    have Hf:=Lib.hid (Hno.out fun h=>h2 (by cases h; rfl));clear Hno aG;have o2 : (a2 == b2) = false:=beq_eq_false_iff_ne.2 h2;clear h2;go_enter Tryz.func19,Tryz.ntmps19;go_wp2_with fail;rw [← eT.out];refine (C1.out _ HB1.out).mono ?_;rintro e y1 ⟨rfl,q1⟩;have aZ:=Lib.hid (ah HB1.out q1 HB1.out.size);have aN:=Lib.hid (wC.out.below q1);have aO:=Lib.hid (uW.out.below q1);clear q1;have cB:=aN.out.cell 0 _ rfl;have jm:=aO.out.cell 0 _ rfl;have bZ:=aN.out.cell 1 _ rfl;have jo:=aO.out.cell 1 _ rfl;have cK:=aN.out.cell 2 _ rfl;have jq:=aO.out.cell 2 _ rfl;have cO:=aN.out.cell 3 _ rfl;have jr:=aO.out.cell 3 _ rfl;have cZ:=aN.out.cell 4 _ rfl;have jv:=aO.out.cell 4 _ rfl;have dh:=aN.out.cell 5 _ rfl;have jw:=aO.out.cell 5 _ rfl;go_wp2_with fail;go_ret;exact ⟨by rw [Hf.out]; rfl,aZ.out⟩
  have o2 : (a2 == b2) = true:=beq_iff_eq.2 h2;have E2:=Lib.hid h2;clear h2;by_cases h3 : a3 = b3
  case neg=>
    have Hf:=Lib.hid (Hno.out fun h=>h3 (by cases h; rfl));clear Hno aG;have o3 : (a3 == b3) = false:=beq_eq_false_iff_ne.2 h3;clear h3;go_enter Tryz.func19,Tryz.ntmps19;go_wp2_with fail;rw [← eT.out];refine (C1.out _ HB1.out).mono ?_;rintro e y1 ⟨rfl,q1⟩;have aZ:=Lib.hid (ah HB1.out q1 HB1.out.size);have aN:=Lib.hid (wC.out.below q1);have aO:=Lib.hid (uW.out.below q1);clear q1;have cB:=aN.out.cell 0 _ rfl;have jm:=aO.out.cell 0 _ rfl;have bZ:=aN.out.cell 1 _ rfl;have jo:=aO.out.cell 1 _ rfl;have cK:=aN.out.cell 2 _ rfl;have jq:=aO.out.cell 2 _ rfl;have cO:=aN.out.cell 3 _ rfl;have jr:=aO.out.cell 3 _ rfl;have cZ:=aN.out.cell 4 _ rfl;have jv:=aO.out.cell 4 _ rfl;have dh:=aN.out.cell 5 _ rfl;have jw:=aO.out.cell 5 _ rfl;go_wp2_with fail;go_ret;exact ⟨by rw [Hf.out]; rfl,aZ.out⟩
  have o3 : (a3 == b3) = true:=beq_iff_eq.2 h3;have E3:=Lib.hid h3;clear h3;by_cases h4 : a4 = b4
  case neg=>
    have Hf:=Lib.hid (Hno.out fun h=>h4 (by cases h; rfl));clear Hno aG;have o4 : (a4 == b4) = false:=beq_eq_false_iff_ne.2 h4;clear h4;go_enter Tryz.func19,Tryz.ntmps19;go_wp2_with fail;rw [← eT.out];refine (C1.out _ HB1.out).mono ?_;rintro e y1 ⟨rfl,q1⟩;have aZ:=Lib.hid (ah HB1.out q1 HB1.out.size);have aN:=Lib.hid (wC.out.below q1);have aO:=Lib.hid (uW.out.below q1);clear q1;have cB:=aN.out.cell 0 _ rfl;have jm:=aO.out.cell 0 _ rfl;have bZ:=aN.out.cell 1 _ rfl;have jo:=aO.out.cell 1 _ rfl;have cK:=aN.out.cell 2 _ rfl;have jq:=aO.out.cell 2 _ rfl;have cO:=aN.out.cell 3 _ rfl;have jr:=aO.out.cell 3 _ rfl;have cZ:=aN.out.cell 4 _ rfl;have jv:=aO.out.cell 4 _ rfl;have dh:=aN.out.cell 5 _ rfl;have jw:=aO.out.cell 5 _ rfl;go_wp2_with fail;go_ret;exact ⟨by rw [Hf.out]; rfl,aZ.out⟩
  have o4 : (a4 == b4) = true:=beq_iff_eq.2 h4;have E4:=Lib.hid h4;clear h4;by_cases h5 : a5 = b5
  case neg=>
    have Hf:=Lib.hid (Hno.out fun h=>h5 (by cases h; rfl));clear Hno aG;rw [aP h5] at C5;clear h5;go_enter Tryz.func19,Tryz.ntmps19;go_wp2_with fail;rw [← eT.out];refine (C1.out _ HB1.out).mono ?_;rintro e y1 ⟨rfl,q1⟩;have aZ:=Lib.hid (ah HB1.out q1 HB1.out.size);have aN:=Lib.hid (wC.out.below q1);have aO:=Lib.hid (uW.out.below q1);clear q1;have cB:=aN.out.cell 0 _ rfl;have jm:=aO.out.cell 0 _ rfl;have bZ:=aN.out.cell 1 _ rfl;have jo:=aO.out.cell 1 _ rfl;have cK:=aN.out.cell 2 _ rfl;have jq:=aO.out.cell 2 _ rfl;have cO:=aN.out.cell 3 _ rfl;have jr:=aO.out.cell 3 _ rfl;have cZ:=aN.out.cell 4 _ rfl;have jv:=aO.out.cell 4 _ rfl;have dh:=aN.out.cell 5 _ rfl;have jw:=aO.out.cell 5 _ rfl;go_wp2_with fail;refine (C5.out _ aZ.out).mono ?_;rintro e y5 ⟨rfl,q5⟩;have iA:=Lib.hid (ah aZ.out q5 aZ.out.size);have dW:=Lib.hid (aN.out.below q5);have dX:=Lib.hid (aO.out.below q5);clear cB jm bZ jo cK jq cO jr cZ jv dh jw;clear q5;have rW:=dW.out.cell 0 _ rfl;have Bp:=dX.out.cell 0 _ rfl;have rX:=dW.out.cell 1 _ rfl;have Bq:=dX.out.cell 1 _ rfl;have rY:=dW.out.cell 2 _ rfl;have Br:=dX.out.cell 2 _ rfl;have rZ:=dW.out.cell 3 _ rfl;have Bt:=dX.out.cell 3 _ rfl;have sj:=dW.out.cell 4 _ rfl;have Bu:=dX.out.cell 4 _ rfl;have su:=dW.out.cell 5 _ rfl;have Bv:=dX.out.cell 5 _ rfl;go_wp2_with fail;go_ret;exact ⟨by rw [Hf.out]; rfl,iA.out⟩
  rw [aQ h5] at C5;have E5:=Lib.hid h5;clear h5;have Hf:=Lib.hid (aG.out (by rw [E0.out,E1.out,E2.out,E3.out,E4.out,E5.out]));clear Hno aG;go_enter Tryz.func19,Tryz.ntmps19;go_wp2_with fail;rw [← eT.out];refine (C1.out _ HB1.out).mono ?_;rintro e y1 ⟨rfl,q1⟩;have aZ:=Lib.hid (ah HB1.out q1 HB1.out.size);have aN:=Lib.hid (wC.out.below q1);have aO:=Lib.hid (uW.out.below q1);clear q1;have cB:=aN.out.cell 0 _ rfl;have jm:=aO.out.cell 0 _ rfl;have bZ:=aN.out.cell 1 _ rfl;have jo:=aO.out.cell 1 _ rfl;have cK:=aN.out.cell 2 _ rfl;have jq:=aO.out.cell 2 _ rfl;have cO:=aN.out.cell 3 _ rfl;have jr:=aO.out.cell 3 _ rfl;have cZ:=aN.out.cell 4 _ rfl;have jv:=aO.out.cell 4 _ rfl;have dh:=aN.out.cell 5 _ rfl;have jw:=aO.out.cell 5 _ rfl;go_wp2_with fail;refine (C5.out _ aZ.out).mono ?_;rintro e y5 ⟨rfl,q5⟩;have iA:=Lib.hid (ah aZ.out q5 aZ.out.size);have dW:=Lib.hid (aN.out.below q5);have dX:=Lib.hid (aO.out.below q5);clear cB jm bZ jo cK jq cO jr cZ jv dh jw;clear q5;have rW:=dW.out.cell 0 _ rfl;have Bp:=dX.out.cell 0 _ rfl;have rX:=dW.out.cell 1 _ rfl;have Bq:=dX.out.cell 1 _ rfl;have rY:=dW.out.cell 2 _ rfl;have Br:=dX.out.cell 2 _ rfl;have rZ:=dW.out.cell 3 _ rfl;have Bt:=dX.out.cell 3 _ rfl;have sj:=dW.out.cell 4 _ rfl;have Bu:=dX.out.cell 4 _ rfl;have su:=dW.out.cell 5 _ rfl;have Bv:=dX.out.cell 5 _ rfl;go_wp2_with fail;go_ret;exact ⟨by rw [Hf.out]; rfl,iA.out⟩
end pod
namespace pod
open Go Go.RowKit ty arith
def wE (l : List Pod) : List Int:=l.map Pod.cpu
def wF (l : List Pod) : List Int:=l.map Pod.mem
def Ua : Option Int → Option Int → Value
  | some a,some b=>.tuple #[.int .i64 a,.int .i64 b,.bool true]
  | _,_=>.tuple #[.int .i64 0,.int .i64 0,.bool false]
def J4 (l : List Pod) : Value:=Ua (lY (wE l)) (lY (wF l))
theorem GH {β : Type} (f : Pod → β) {l : List Pod} {j : Nat} (h : j < l.length) : (l.map f).take (j + 1) = (l.map f).take j ++ [f l[j]]:=by
  rw [List.take_succ_eq_append_getElem (by simpa using h),List.getElem_map]
end pod
namespace pod
open Go Go.RowKit ty arith
structure Two (w : World) (it : TypeId) (vc vm : Value) (j : Nat) (xs ys : List Int) (a : World) : Prop where
  c : a.ownsRow w.heap.size it 1 vc j (iP xs)
  m : a.ownsRow w.heap.size it 1 vm j (iP ys)
  apart : ∀ q,vc.ownBlock = some q → vm.ownBlock = some q → False
  gK : Below w.heap.size w a
theorem Ub {ob ob' : Option Nat} (h : ∀ q,ob = some q → ob' = some q → False) : ob = none ∨ ob ≠ ob':=by
  cases ob with
  | none=>exact .inl rfl
  | some q=>exact .inr fun e=>h q rfl e.symm
theorem J5 {x : Pod} (h : x.Wf) : (Lit.int .i64 x.cpu).wf = true ∧ (Lit.int .i64 x.mem).wf = true:=⟨h.2.1,h.2.2.1⟩
end pod
namespace pod
open Go.ChangeShapes Go.WideShapes Go.ChangeAt Go.RowKit ty lab arith
set_option maxRecDepth 100000 in
set_option maxHeartbeats 16000000 in
theorem LG (l : List Pod) (f : Nat) (v : Value) (w : World) (h : bf w f v (.sl 7 l.length (l.flatMap Pod.row))) (hn : l.length ≤ 1048576) :
    Calls Tryz.prog 15 #[v] w fun e w'=>e = .returned (J4 l) ∧ Below w.heap.size w w':=by
  obtain ⟨A,c,rfl,hc1,hc2,f',rfl,hk⟩:=bD Pod.au h;unfold maxLen at hc2
  have Hwc : Hid (∀ x ∈ wE l,(Lit.int .i64 x).wf = true):=fun x hx=>by
    obtain ⟨y,hy,rfl⟩:=List.mem_map.1 hx;obtain ⟨j,hj,rfl⟩:=List.getElem_of_mem hy;obtain ⟨g,o,_,_,us,_,_,hls⟩:=hk.get hj;obtain ⟨_,_,_,_,_,_,_,hwf,_⟩:=Pod.opened hls;exact (J5 hwf).1
  have Hwm : Hid (∀ x ∈ wF l,(Lit.int .i64 x).wf = true):=fun x hx=>by
    obtain ⟨y,hy,rfl⟩:=List.mem_map.1 hx;obtain ⟨j,hj,rfl⟩:=List.getElem_of_mem hy;obtain ⟨g,o,_,_,us,_,_,hls⟩:=hk.get hj;obtain ⟨_,_,_,_,_,_,_,hwf,_⟩:=Pod.opened hls;exact (J5 hwf).2
  obtain ⟨i0,hi,hz0,hz1,hz2⟩:=info_parts iinfo.Tryzinfo;have Hk:=Lib.hid hk;obtain ⟨w2,hw2⟩ : ∃ w2,w2 = (w.alloc (.cells #[] 3)).alloc (.cells #[] 3):=⟨_,rfl⟩
  have h2 : Two w 3 (.slice (some ⟨w.heap.size,0,none⟩) 0 0) (.slice (some ⟨w.heap.size + 1,0,none⟩) 0 0) 0 [] [] w2:=by
    rw [hw2];refine ⟨own_below' (World.ownsRow_lit w #[] 0 (Nat.le_refl _) (by simp [maxLen]) rfl) ((Below.refl _ _).alloc (Nat.le_refl _) _),?_,fun q h1 h2=>?_,((Below.refl _ _).alloc (Nat.le_refl _) _).alloc (by simp) _⟩
    · have h1:=World.ownsRow_lit (size:=1) (e:=3) (w.alloc (.cells #[] 3)) #[] 0 (Nat.le_refl _) (by simp [maxLen]) rfl;rw [show (w.alloc (.cells #[] 3)).heap.size = w.heap.size + 1 by simp] at h1;exact bR h1 (by omega)
    · simp [Value.ownBlock] at h1 h2;omega
  have Yp:=Lib.hid hw2;have H2:=Lib.hid h2;clear h hk hw2 h2;go_enter Tryz.func15,Tryz.ntmps15;go_wp2_with fail;rw [← Yp.out]
  go_loopw [5,6,17] (fun vc vm i wr=>∃ j : Nat,j ≤ l.length ∧ i = .int .i64 j ∧ Two w 3 vc vm j ((wE l).take j) ((wF l).take j) wr) (fun _ _ i _=>l.length - (intOf i).toNat)
  case atStart=>exact ⟨0,Nat.zero_le _,rfl,H2.out⟩
  case round=>
    clear H2 Yp;obtain ⟨wo,rfl⟩ : ∃ wo,wo = wr:=⟨_,rfl⟩;obtain ⟨j,hj,rfl,hst⟩:=hrel;obtain ⟨Ac,cc,rfl⟩:=aW hst.c;obtain ⟨Am,cm,rfl⟩:=aW hst.m;have BU:=Lib.hid hst;by_cases hlt : j < l.length
    · obtain ⟨g,o,rfl,hg,us,kN,hc,hls⟩:=Hk.out.get hlt;obtain ⟨A1,c1,A5,c5,A6,c6,rfl,hwf,_⟩:=Pod.opened hls;have q0 : wo.cell? ⟨g,o + j * 7,none⟩ = some (.string l[j].name):=(World.cell?_of_block (hst.gK.block g hg)).trans (hc 0 _ rfl);have q1 : wo.cell? ⟨g,o + j * 7 + 1,none⟩ = some (.slice A1 l[j].labels.length c1):=(World.cell?_of_block (hst.gK.block g hg)).trans (hc 1 _ rfl);have q2 : wo.cell? ⟨g,o + j * 7 + 2,none⟩ = some (.int .i64 l[j].cpu):=(World.cell?_of_block (hst.gK.block g hg)).trans (hc 2 _ rfl);have q3 : wo.cell? ⟨g,o + j * 7 + 3,none⟩ = some (.int .i64 l[j].mem):=(World.cell?_of_block (hst.gK.block g hg)).trans (hc 3 _ rfl);have q4 : wo.cell? ⟨g,o + j * 7 + 4,none⟩ = some (.int .i64 l[j].rank):=(World.cell?_of_block (hst.gK.block g hg)).trans (hc 4 _ rfl);have q5 : wo.cell? ⟨g,o + j * 7 + 5,none⟩ = some (.slice A5 l[j].needs.length c5):=(World.cell?_of_block (hst.gK.block g hg)).trans (hc 5 _ rfl);have q6 : wo.cell? ⟨g,o + j * 7 + 6,none⟩ = some (.slice A6 l[j].tolerances.length c6):=(World.cell?_of_block (hst.gK.block g hg)).trans (hc 6 _ rfl);have hj0 : (0 : Int) ≤ (j : Int):=(by omega);have hjn : (j : Int) < (l.length : Int):=(by omega);have Hnc:=Lib.hid (GH Pod.cpu hlt);have XM:=Lib.hid (GH Pod.mem hlt);have hBo : w.heap.size ≤ wo.heap.size:=hst.gK.size;clear hst hc hls kN hwf;generalize l[j].name = xn at q0;generalize l[j].labels.length = nl at q1;generalize l[j].cpu = xc at q2 Hnc;generalize l[j].mem = xm at q3 XM;generalize l[j].rank = xr at q4;generalize l[j].needs.length = nn at q5;generalize l[j].tolerances.length = nt at q6;obtain ⟨w3,hw3⟩ : ∃ x,x = wo.alloc (.cells #[.string xn,.slice A1 nl c1,.int .i64 xc,.int .i64 xm,.int .i64 xr,.slice A5 nn c5,.slice A6 nt c6] 28):=⟨_,rfl⟩;have hb3 : Below wo.heap.size wo w3:=(by rw [hw3]; exact (Below.refl _ _).alloc (Nat.le_refl _) _);have r3 : aC 28 w3 wo.heap.size [.string xn,.slice A1 nl c1,.int .i64 xc,.int .i64 xm,.int .i64 xr,.slice A5 nn c5,.slice A6 nt c6]:=(by rw [hw3]; exact aC.new _ _ _);have p2 : (wo.alloc (.cells #[.string xn,.slice A1 nl c1,.int .i64 xc,.int .i64 xm,.int .i64 xr,.slice A5 nn c5,.slice A6 nt c6] 28)).cell? ⟨wo.heap.size,2,none⟩ = some (.int .i64 xc):=(by rw [← hw3]; exact r3.cell 2 _ rfl);have XJ:=Lib.hid (show wo.heap.size < w3.heap.size from aX r3)
      have hlit : jI (w3.alloc (.cells #[.int .i64 xc] 3)) (some ⟨wo.heap.size + 1,0,none⟩) 1 1 [.int .i64 xc]:=by
        have h:=flt.fD (k:=1) w3 3 [.int .i64 xc] rfl;rw [show w3.heap.size = wo.heap.size + 1 by rw [hw3]; simp] at h;exact h
      have kX:=Lib.hid hlit;have G7:=Lib.hid hw3;have Hb3:=Lib.hid hb3;have R3:=Lib.hid r3;clear hw3 hb3 r3 hlit;go_wp2_with (first | (at_builtin; rw [← G7.out]; refine aB rfl (.tmp 21) (.tmp 24) 87 rfl w.heap.size 3 i0 (.int .i64 0) 1 8 Tryz.underlying87 hi hz0 hz1 hz2 rfl (by decide) _ j (iP ((wE l).take j)) rfl (own_below' BU.out.c (Hb3.out.alloc Hb3.out.size _)) _ 1 1 [.int .i64 xc] rfl kX.out (iinfo.one_cell xc) (by unfold maxLen; omega) (by omega) (by have:=Hb3.out.size; simp; omega) ?_) | fail);intro v5 w5 hown5 hg5 DW;have hs3:=Hb3.out.size;have hb5 : Below w.heap.size w w5:=((ah BU.out.gK Hb3.out hBo).alloc (by omega) _).grown hg5 (by simp; omega) (fun q hq=>(BU.out.c.lt q hq).1);have hm5:=(own_below' BU.out.m (Hb3.out.alloc Hb3.out.size (.cells #[.int .i64 xc] 3))).kept hg5 (Ub fun q h1 h2=>BU.out.apart q h2 h1)
      have ha5 : ∀ q,v5.ownBlock = some q → (Value.slice Am j cm).ownBlock = some q → False:=fun q h1 h2=>by
        rcases DW with e | e
        · exact BU.out.apart q (e ▸ h1) h2
        · have h3:=(BU.out.m.lt q h2).2;rw [e] at h1;injection h1 with h1
          try simp at h1
          omega
      have r5 : aC 28 w5 wo.heap.size [.string xn,.slice A1 nl c1,.int .i64 xc,.int .i64 xm,.int .i64 xr,.slice A5 nn c5,.slice A6 nt c6]:=(hg5.block wo.heap.size (by have:=XJ.out; simp; omega) (fun e=>by have h3:=(BU.out.c.lt _ e.symm).2; omega)).trans (Below.heap_alloc _ _ _ XJ.out |>.trans R3.out);have p3:=r5.cell 3 _ rfl;have hs5 : w.heap.size ≤ w5.heap.size:=hb5.size;have kT:=Lib.hid hown5;have Hm5:=Lib.hid hm5;have Ha5:=Lib.hid ha5;have Hb5:=Lib.hid hb5;clear hown5 hg5 DW hb5 hm5 ha5 BU q0 q1 q2 q3 q4 q5 q6 p2 hs3 r5 R3 Hb3 G7 XJ kX;go_wp2_with (first | (at_builtin; refine aB rfl (.tmp 26) (.tmp 29) 87 rfl w.heap.size 3 i0 (.int .i64 0) 1 8 Tryz.underlying87 hi hz0 hz1 hz2 rfl (by decide) _ j (iP ((wF l).take j)) rfl (own_below' Hm5.out ((Below.refl _ _).alloc (Nat.le_refl _) _)) _ 1 1 [.int .i64 xm] rfl (flt.fD _ _ _ rfl) (iinfo.one_cell xm) (by unfold maxLen; omega) (by omega) (by simp; omega) ?_) | fail);intro v6 w6 hown6 kg Rf
      have HR : Hid (Two w 3 v5 v6 (j + 1) ((wE l).take (j + 1)) ((wF l).take (j + 1)) w6):=by
        refine ⟨?_,?_,fun q h1 h2=>?_,(Hb5.out.alloc hs5 _).grown kg (by simp; omega) (fun q hq=>(Hm5.out.lt q hq).1)⟩
        · have h1:=(own_below' kT.out ((Below.refl _ _).alloc (Nat.le_refl _) (.cells #[.int .i64 xm] 3))).kept kg (Ub fun q h1 h2=>Ha5.out q h1 h2);unfold wE;rw [Hnc.out,tN];exact h1
        · unfold wF;rw [XM.out,tN];exact hown6
        · rcases Rf with e | e
          · exact Ha5.out q h1 (e ▸ h2)
          · have h3:=(kT.out.lt q h1).2;rw [e] at h2;injection h2 with h2
            try simp at h2
            omega
      clear hown6 kg Rf;go_wp2_with fail
      go_roundw
      case rel=>exact ⟨j + 1,by omega,by go_num,HR.out⟩
      case measure=>simp [intOf]; omega
    · obtain rfl : j = l.length:=(by omega);have e1 : (wE l).take l.length = wE l:=List.take_of_length_le (by simp [wE]);have e2 : (wF l).take l.length = wF l:=List.take_of_length_le (by simp [wF]);rw [e1,e2] at hst;obtain ⟨_,_,ec,k1,k2,hrc⟩:=Rd.Me hst.c;injection ec with ec _ ed;subst ec ed;obtain ⟨_,_,ec,k3,k4,hrm⟩:=Rd.Me hst.m;injection ec with ec _ ed;subst ec ed;have HC:=Lib.hid (fun w' (hb : Below wo.heap.size wo w')=>Cx Ac l.length cc (wE l) w' (by unfold maxLen; omega) (by simp [wE]) (hrc.below hb) Hwc.out);have HM:=Lib.hid (fun w' (hb : Below wo.heap.size wo w')=>Cx Am l.length cm (wF l) w' (by unfold maxLen; omega) (by simp [wF]) (hrm.below hb) Hwm.out);have HB:=Lib.hid hst.gK;have He : Hid (J4 l = Ua (lY (wE l)) (lY (wF l))):=rfl;clear hst BU hrc hrm;generalize lY (wE l) = R1 at HC He;generalize lY (wF l) = R2 at HM He;cases R1 with
      | none=>
        rw [mR] at HC;cases R2 with
        | none=>
          rw [mR] at HM;go_wp2_with fail;refine (HC.out _ (Below.refl _ _)).mono ?_;rintro e w1 ⟨rfl,rfl⟩;go_wp2_with fail;refine (HM.out _ (Below.refl _ _)).mono ?_;rintro e w1 ⟨rfl,rfl⟩;go_wp2_with fail
          go_ret3
          exact ⟨by rw [He.out]; rfl,HB.out⟩
        | some b=>
          rw [qZ] at HM;go_wp2_with fail;refine (HC.out _ (Below.refl _ _)).mono ?_;rintro e w1 ⟨rfl,rfl⟩;go_wp2_with fail;refine (HM.out _ (Below.refl _ _)).mono ?_;rintro e w1 ⟨rfl,rfl⟩;go_wp2_with fail
          go_ret3
          exact ⟨by rw [He.out]; rfl,HB.out⟩
      | some a=>
        rw [qZ] at HC;cases R2 with
        | none=>
          rw [mR] at HM;go_wp2_with fail;refine (HC.out _ (Below.refl _ _)).mono ?_;rintro e w1 ⟨rfl,rfl⟩;go_wp2_with fail;refine (HM.out _ (Below.refl _ _)).mono ?_;rintro e w1 ⟨rfl,rfl⟩;go_wp2_with fail
          go_ret3
          exact ⟨by rw [He.out]; rfl,HB.out⟩
        | some b=>
          rw [qZ] at HM;go_wp2_with fail;refine (HC.out _ (Below.refl _ _)).mono ?_;rintro e w1 ⟨rfl,rfl⟩;go_wp2_with fail;refine (HM.out _ (Below.refl _ _)).mono ?_;rintro e w1 ⟨rfl,rfl⟩;go_wp2_with fail
          go_ret3
          exact ⟨by rw [He.out]; rfl,HB.out⟩
end pod
namespace ty
open Go Go.RowKit
def Pod.ab8 (x : Pod) : Nat:=bH Label.cost x.labels + bH Need.cost x.needs + bH aj.cost x.tolerances
def Pod.stamp (x : Pod) (k : Int) : Pod:=⟨x.name,LX Label.mark Label.cost x.labels (k),x.cpu,x.mem,x.rank,LX Need.mark Need.cost x.needs (k + (bH Label.cost x.labels : Nat)),LX aj.mark aj.cost x.tolerances (k + (bH Label.cost x.labels : Nat) + (bH Need.cost x.needs : Nat))⟩
end ty
namespace ty
open Go Go.RowKit
def Host.ab8 (x : Host) : Nat:=bH Label.cost x.labels + bH av.cost x.bP
def Host.stamp (x : Host) (k : Int) : Host:=⟨x.name,LX Label.mark Label.cost x.labels (k),x.cpu,x.mem,x.slots,LX av.mark av.cost x.bP (k + (bH Label.cost x.labels : Nat))⟩
end ty
namespace pod
open Go Go.RowKit ty lab need taint dedup
theorem OY {f : Label → Nat} {a b : List Label} (h : List.Perm a b) : bH f a = bH f b:=by
  induction h with
  | nil=>rfl
  | cons x h ih=>simp only [bH,List.map_cons,List.sum_cons] at ih ⊢; omega
  | swap x y l=>simp only [bH,List.map_cons,List.sum_cons]; omega
  | trans _ _ h1 h2=>exact h1.trans h2
theorem CX (f : Label → Nat) (l : List Label) : bH f (eB l).1 ≤ bH f l:=by
  unfold eB
  split
  · exact Nat.le_of_eq (OY (sorted_perm l))
  · exact Nat.le_refl _
theorem CY (l : List Label) : (eB l).1.length ≤ l.length:=by
  unfold eB
  split
  · exact Nat.le_of_eq (lI l)
  · exact Nat.le_refl _
theorem Rn (x : Need) : (kH x).wt ≤ x.wt:=by
  have h1:=kY aJ Str.wt x.values;have h2:=fI aJ x.values;unfold Need.wt kH;simp only;omega
theorem LH (l : List Need) : bH Need.wt (iF l).1 ≤ bH Need.wt l:=by
  by_cases h : l.length ≤ 40 ∧ lC l l.length ∧ mF (fH l)
  · rw [j5 h];refine Nat.le_trans (kY dA Need.wt (l.map kH)) ?_;clear h
    induction l with
    | nil=>simp [bH]
    | cons x l ih=>
      have:=Rn x;simp only [bH,List.map_cons,List.sum_cons] at ih ⊢;omega
  · rw [kI h];exact Nat.le_refl _
theorem En (l : List Need) : (iF l).1.length ≤ l.length:=by
  by_cases h : l.length ≤ 40 ∧ lC l l.length ∧ mF (fH l)
  · rw [j5 h]; exact nX l
  · rw [kI h]; exact Nat.le_refl _
theorem CZ {α : Type} {P : List α → Prop} {lt : α → α → Bool} (f : α → Nat) (l : List α) : bH f (dK P lt l).1 ≤ bH f l:=by
  rcases jY (lt:=lt) P l with e | ⟨e,_⟩ <;> rw [e]
  · exact Nat.le_refl _
  · exact kY lt f l
theorem Eo (x : Pod) : (ji x).wt ≤ x.wt:=by
  have h1:=CX Label.wt x.labels;have h2:=CY x.labels;have h3:=LH x.needs;have h4:=En x.needs;have h5:=CZ (P:=dN) (lt:=bU) aj.wt x.tolerances;have h6:=BO (P:=dN) (lt:=bU) (Nat.le_refl x.tolerances.length);unfold Pod.wt ji;simp only;omega
theorem AP (x : Host) : (fP x).wt ≤ x.wt:=by
  have h1:=CX Label.wt x.labels;have h2:=CY x.labels;have h5:=CZ (P:=bL) (lt:=bA) av.wt x.bP;have h6:=BO (P:=bL) (lt:=bA) (Nat.le_refl x.bP.length);unfold Host.wt fP;simp only;omega
theorem Jd (x : Pod) : ni x = (ji x,true) ∨ ni x = (x,false):=by
  unfold ni
  split
  · exact .inl rfl
  · exact .inr rfl
theorem GI (x : Host) : iZ x = (fP x,true) ∨ iZ x = (x,false):=by
  unfold iZ
  split
  · exact .inl rfl
  · exact .inr rfl
end pod
end Go.Proofs.YtcfbkfmkjggcdaaGreatDoor
