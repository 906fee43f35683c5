/- spec.DrawPodNormal: to read. Printed by gen/gen_rot.py. -/
import Derived.Test.YtcfbkfmkjggcdaaGreatDoorDrawC
import Derived.Test.YtcfbkfmkjggcdaaGreatDoorGA2
import Derived.Test.YtcfbkfmkjggcdaaGreatDoorGA5
import Derived.Test.YtcfbkfmkjggcdaaGreatDoorDrawPa
import Derived.Test.YtcfbkfmkjggcdaaGreatDoorGA14
import Derived.Test.YtcfbkfmkjggcdaaGreatDoorGA15
import Derived.Test.YtcfbkfmkjggcdaaGreatDoorGA0
import Derived.Test.YtcfbkfmkjggcdaaGreatDoorGA12
import Derived.Test.YtcfbkfmkjggcdaaGreatDoorGA6
import Derived.Deep.RegionHeld3
import Derived.Deep.Cut
import Derived.Deep.CutRange
import Derived.Deep.RegionLaw
import Derived.Deep.WholeRow
namespace Go.Proofs.YtcfbkfmkjggcdaaGreatDoor.draw
open Go.ChangeShapes Go.WideShapes Go.ChangeAt Go.RowKit ty lab taint need rot
set_option linter.unusedVariables false
set_option linter.unusedSimpArgs false
set_option maxRecDepth 1000000 in
set_option maxHeartbeats 64000000 in
theorem Bg (A : Option Addr) (len cap : Nat) (zs : List Int) (w : World) (hr : qo .u8 w A len cap zs) (hlen : len ≤ 1048576) :
    Calls Tryz.prog 7 #[.slice A len cap] w fun e w'=>rG Pod.row lW w e w':=by
  obtain ⟨i0,hi,hz0,hz1,hz2⟩:=info_parts TryzinfoLab;obtain ⟨i0n,hin,QN,QO,QS⟩:=info_parts TryzinfoNeed;obtain ⟨W,hW⟩ : ∃ W,W = w.alloc (.cells #[.string ⟨#[]⟩,.slice none 0 0,.int .i64 0,.int .i64 0,.int .i64 0,.slice none 0 0,.slice none 0 0] 28):=⟨_,rfl⟩;have hbW : Below w.heap.size w W:=(by rw [hW]; exact (Below.refl _ _).alloc (Nat.le_refl _) _);have WK : aC 28 W w.heap.size [.string ⟨#[]⟩,.slice none 0 0,.int .i64 0,.int .i64 0,.int .i64 0,.slice none 0 0,.slice none 0 0]:=(by rw [hW]; exact aC.new _ _ _);have HN:=Lib.hid (Jg A len cap zs W (hr.below hbW) hlen);have HW:=Lib.hid hW;have QL:=Lib.hid hbW;have YD:=Lib.hid WK;have hWs:=aX WK;clear hr hW hbW WK;go_enter Tryz.func7,Tryz.ntmps7;go_wp2_with fail;rw [← HW.out];refine HN.out.mono ?_;clear HN HW;rintro e w1 ⟨c,rfl,hcW,hc,hb1⟩;generalize (fun j=>zs.getD j 0) = z at hc;have HA:=Lib.hid (Iq c A len cap z w1 hc);have Hb1:=Lib.hid hb1;clear hc hb1;go_wp2_with fail;refine HA.out.mono ?_;clear HA;rintro e w2 ⟨x0,us,f0,F0,hx,rfl,ho,hnd,hc2,hg2⟩;obtain ⟨a0,a1,a2,a3,a4,a5,a6⟩:=x0;obtain ⟨A1,c1,F1,A5,c5,F5,A6,c6,F6,rfl,hwf,o1,o5,o6,mE,yD,yE⟩:=Pod.parts ho hnd;simp only at hwf o1 o5 o6;have hb2 : Below w.heap.size w w2:=(ah QL.out Hb1.out QL.out.size).grown hg2 (Nat.le_trans QL.out.size Hb1.out.size) (fun q hq=>by injection hq with hq; omega);have hz2 : aC 28 w2 w.heap.size [.string ⟨#[]⟩,.slice none 0 0,.int .i64 0,.int .i64 0,.int .i64 0,.slice none 0 0,.slice none 0 0]:=(hg2.block w.heap.size (Nat.lt_of_lt_of_le hWs Hb1.out.size) (fun e=>by injection e with e; omega)).trans (YD.out.below Hb1.out);have Hr:=Lib.hid (show w.heap.size < w1.heap.size from Nat.lt_of_lt_of_le hWs Hb1.out.size);obtain ⟨b,hb⟩ : ∃ b,b = w2.heap.size:=⟨_,rfl⟩;obtain ⟨X,hX⟩ : ∃ X,X = w2.alloc (.cells #[.string a0,.slice A1 a1.length c1,.int .i64 a2,.int .i64 a3,.int .i64 a4,.slice A5 a5.length c5,.slice A6 a6.length c6] 28):=⟨_,rfl⟩;have hbX : Below w2.heap.size w2 X:=(by rw [hX]; exact (Below.refl _ _).alloc (Nat.le_refl _) _);have haft : tX 28 w w2 b [.string a0,.slice A1 a1.length c1,.int .i64 a2,.int .i64 a3,.int .i64 a4,.slice A5 a5.length c5,.slice A6 a6.length c6] X:=⟨ah hb2 hbX hb2.size,fun k hk=>hbX.block k hk,by rw [hX,hb]; exact aC.new _ _ _,by omega,hb2.size⟩;have fV:=Lib.hid haft;have Hz:=Lib.hid hz2;have HX:=Lib.hid hX;have Hb:=Lib.hid hb;have eU:=Lib.hid hwf;have HP:=Lib.hid hx;have HbX:=Lib.hid hbX;have O1:=Lib.hid o1.own;have O5:=Lib.hid o5.own;have O6:=Lib.hid o6.own;clear ho hnd hc2 hg2 hb2 hz2 hb hX hbX haft hwf hx o1 o5 o6 mE yD yE Hb1 QL YD hcW hWs;go_upto_region 3 with fail;rw [← HX.out,← Hb.out];clear HX Hb HbX;have p1:=fV.out.box.cell 1 _ rfl;have WR : a1.length ≤ 12:=HP.out.2.1.1;have NP : a5.length ≤ 11:=HP.out.2.2.1.1;by_cases hn : 1 < a1.length
  case neg=>
    have hni : ¬ (1 : Int) < (a1.length : Int):=(by omega);go_upto_region 5 with fail;have p5:=fV.out.box.cell 5 _ rfl;by_cases hm : 1 < a5.length
    case neg=>
      have yZ : ¬ (1 : Int) < (a5.length : Int):=(by omega);obtain ⟨g1,k1⟩:=(fV.out.yY O1.out Hr.out).res #[.string a0,.slice A1 a1.length c1,.int .i64 a2,.int .i64 a3,.int .i64 a4,.slice A5 a5.length c5,.slice A6 a6.length c6];obtain ⟨g5,k5⟩:=(fV.out.yY O5.out Hr.out).res #[.string a0,.slice A1 a1.length c1,.int .i64 a2,.int .i64 a3,.int .i64 a4,.slice A5 a5.length c5,.slice A6 a6.length c6];obtain ⟨g6,k6⟩:=(fV.out.yY O6.out Hr.out).res #[.string a0,.slice A1 a1.length c1,.int .i64 a2,.int .i64 a3,.int .i64 a4,.slice A5 a5.length c5,.slice A6 a6.length c6];have dJ:=fV.out.box;have bJ:=fV.out.row Hz.out;unfold aC at bJ dJ
      have FV : aH (X.setRow w.heap.size #[.string a0,.slice A1 a1.length c1,.int .i64 a2,.int .i64 a3,.int .i64 a4,.slice A5 a5.length c5,.slice A6 a6.length c6]) (g1 + g5 + g6 + 1) [.string a0,.slice A1 a1.length c1,.int .i64 a2,.int .i64 a3,.int .i64 a4,.slice A5 a5.length c5,.slice A6 a6.length c6] (Pod.row ⟨a0,a1,a2,a3,a4,a5,a6⟩):=by
        unfold Pod.row;exact aH.cons (show bf _ (g1 + g5 + g6 + 1) _ _ from ⟨rfl,eU.out.1⟩) (aH.cons (bf.deeper (by omega) k1) (aH.cons (show bf _ (g1 + g5 + g6 + 1) _ _ from ⟨rfl,eU.out.2.1⟩) (aH.cons (show bf _ (g1 + g5 + g6 + 1) _ _ from ⟨rfl,eU.out.2.2.1⟩) (aH.cons (show bf _ (g1 + g5 + g6 + 1) _ _ from ⟨rfl,eU.out.2.2.2⟩) (aH.cons (bf.deeper (by omega) k5) (aH.cons (bf.deeper (by omega) k6) (aH.nil)))))))
      have HR : Hid (rG Pod.row lW w (.returned (.agg #[.string a0,.slice A1 a1.length c1,.int .i64 a2,.int .i64 a3,.int .i64 a4,.slice A5 a5.length c5,.slice A6 a6.length c6])) (X.setRow w.heap.size #[.string a0,.slice A1 a1.length c1,.int .i64 a2,.int .i64 a3,.int .i64 a4,.slice A5 a5.length c5,.slice A6 a6.length c6])):=⟨⟨a0,a1,a2,a3,a4,a5,a6⟩,_,g1 + g5 + g6 + 1,HP.out,rfl,FV,ay fV.out.gK (Nat.le_refl _) _⟩;clear FV k1 k5 k6;go_wp2_with (first | (refine wpList_load_row rfl 28 _ rfl b rfl 28 #[.string a0,.slice A1 a1.length c1,.int .i64 a2,.int .i64 a3,.int .i64 a4,.slice A5 a5.length c5,.slice A6 a6.length c6] (0,0) _ dJ Tryz.underlying28 rfl aS ?_) | (refine wpList_store_row rfl 28 _ _ rfl w.heap.size #[.string a0,.slice A1 a1.length c1,.int .i64 a2,.int .i64 a3,.int .i64 a4,.slice A5 a5.length c5,.slice A6 a6.length c6] rfl rfl 28 _ bJ aS rfl (by simp [Value.oneCell']) ?_) | fail);refine bodyPost_ret (v:=.agg #[.string a0,.slice A1 a1.length c1,.int .i64 a2,.int .i64 a3,.int .i64 a4,.slice A5 a5.length c5,.slice A6 a6.length c6]) ?_ rfl HR.out;exact results_cell_row rfl _ _ w.heap.size _ _ (0,0) _ rfl (aI bJ) Tryz.underlying28 rfl aS
    obtain ⟨g,hA,hcap,hg2⟩:=rot.vB O5.out (by omega);subst hA;obtain ⟨raw,F9,uQ,hos⟩:=rot.yJ O5.out;obtain ⟨u0,u1,u2,rest,hraw⟩:=rot.BH (xs:=raw) (by rw [uQ.1]; omega);have hgl : g < X.heap.size:=Nat.lt_of_lt_of_le hg2 fV.out.size;have hrd:=vv uQ fV.out.size fV.out.old;have WM : X.cell? ⟨g,0,none⟩ = some u0:=rot.gB hrd (by omega) (by rw [hraw]; rfl);have WO : X.cell? ⟨g,1,none⟩ = some u1:=rot.gB hrd (by omega) (by rw [hraw]; rfl);have YE : X.cell? ⟨g,2,none⟩ = some u2:=rot.gB hrd (by omega) (by rw [hraw]; rfl);have qP:=Lib.hid (rot.vk hrd (by omega));have fK:=rot.fF hos.lies;have iG:=Lib.hid (show ∀ u ∈ raw.drop 3,u.oneCell' = true from fun u hu=>fK u (List.mem_of_mem_drop hu));have gJ:=Lib.hid (show ∀ u ∈ [u0,u1,u2],u.oneCell' = true from fun u hu=>fK u (by rw [hraw]; simp at hu ⊢; rcases hu with rfl | rfl | rfl <;> simp));have NN:=Lib.hid (show raw.take (1 * 3) = [u0,u1,u2] by rw [hraw]; rfl);have WQ:=Lib.hid fV.out.lt;have pf:=fV.out.box.cell 5 _ rfl;have fJ : a5.length - 1 ≤ 64:=(by have:=NP; omega);have hN0 : 0 < a5.length:=(by omega);have hn1 : (1 : Int) ≤ (a5.length : Int):=(by omega);have hn0 : (0 : Int) < (a5.length : Int):=(by omega);have hn2 : (1 : Int) < (a5.length : Int):=(by omega);have hc1 : ¬ c5 = 1:=(by omega);have FW:=Lib.hid (fun w6 v6 xs F5 (hxs : bq w6 X.heap.size 2 xs ((a5.drop 1).flatMap Need.row) F5) (h1 : w6.ownsRow X.heap.size 69 3 v6 (a5.length - 1 + 1) (xs ++ [u0,u1,u2])) (h2 : Below X.heap.size X w6)=>rot.tX.Jh Need.au fV.out 5 hos Hr.out (by omega) hxs (by rw [NN.out]; exact h1) h2);have YF:=Lib.hid hos;have YG:=Lib.hid (show c5 ≤ maxLen from let ⟨_,_,e,_,h2,_⟩:=O5.out.lies.sl; by injection e with _ _ e3; rw [e3]; exact h2);clear hrd uQ hos fK hraw hg2;have Hsm:=Lib.hid (fun i (h : i < (a5.drop 1).length)=>show ((a5.drop 1)[i]).values.length ≤ 1048576 from by have:=(HP.out.2.2.1.2 _ (List.mem_of_mem_drop (List.getElem_mem h))).n; omega);have wM:=Lib.hid (fun w' (hb : Below X.heap.size X w')=>(show Calls Tryz.prog 32 #[.slice (some ⟨g,3,none⟩) (a5.length - 1) (c5 - 1)] w' (fun e wz=>∃ v5,e = .returned v5 ∧ dx wz X.heap.size 2 69 3 v5 (a5.length - 1) ((a5.drop 1).flatMap Need.row) ∧ Below w'.heap.size w' wz ∧ Below X.heap.size X wz) from (mX (a5.drop 1) _ (.slice (some ⟨g,3,none⟩) (a5.length - 1) (c5 - 1)) w' (by rw [show (a5.drop 1).length = a5.length - 1 from List.length_drop ..]; exact rot.yV (qP.out.below hb) (by rw [← rot.uJ Need.au a5 1]; exact rot.uI (rot.sH YF.out Hr.out fV.out.hi (fun k h1 h2 h3=>(hb.block k (Nat.lt_of_lt_of_le h1 fV.out.size)).trans (fV.out.old k h1))) (1 * 3)) (by omega) (by have:=YG.out; omega)) (by rw [List.length_drop]; omega) Hsm.out).mono (fun e wz h=>by obtain ⟨v5,h1,h2,h3⟩:=h; rw [show (a5.drop 1).length = a5.length - 1 from List.length_drop ..] at h2; exact ⟨v5,h1,h2.lower hb.size,h3,ah hb h3 hb.size⟩)));have QM:=Lib.hid (show lW ⟨a0,a1,a2,a3,a4,bn a5 1,a6⟩ from ⟨HP.out.1,HP.out.2.1,⟨by rw [lN (by omega) (by omega)]; omega,fun y hy=>HP.out.2.2.1.2 y (vw y hy)⟩,HP.out.2.2.2⟩);go_upto_region 6 with fail;go_cut [4] from 29 to 39 (fun s4 wx=>s4 = .pointer (some ⟨b,0,none⟩) ∧ ∃ v6,(tX 28 w w2 b [.string a0,.slice A1 a1.length c1,.int .i64 a2,.int .i64 a3,.int .i64 a4,v6,.slice A6 a6.length c6] wx ∧ nJ w.heap.size b wx (.slice A1 a1.length c1) (.sl 2 (a1).length ((a1).flatMap Label.row))) ∧ nJ w.heap.size b wx v6 (.sl 3 (bn a5 1).length ((bn a5 1).flatMap Need.row)) ∧ ∃ A c,v6 = .slice A (bn a5 1).length c)
    case first=>
      have Hf1:=Lib.hid (fV.out.yY O1.out Hr.out);have KS : ∀ Z9 : World,Below X.heap.size X Z9 → Z9.cell? ⟨b,5,none⟩ = some (.slice (some ⟨g,0,none⟩) a5.length c5) ∧ Z9.cell? ⟨g,0,none⟩ = some u0 ∧ Z9.cell? ⟨g,1,none⟩ = some u1 ∧ Z9.cell? ⟨g,2,none⟩ = some u2:=fun Z9 hb=>⟨(World.cell?_of_block (hb.block b WQ.out)).trans pf,(World.cell?_of_block (hb.block g hgl)).trans WM,(World.cell?_of_block (hb.block g hgl)).trans WO,(World.cell?_of_block (hb.block g hgl)).trans YE⟩;refine wp_region_noPanic ?_;refine nU 11 (by kernel_rfl) (fun w'=>w'.cell? ⟨b,5,none⟩ = some (.slice (some ⟨g,0,none⟩) a5.length c5) ∧ w'.cell? ⟨g,0,none⟩ = some u0 ∧ w'.cell? ⟨g,1,none⟩ = some u1 ∧ w'.cell? ⟨g,2,none⟩ = some u2) ?_;refine bE (i:=0) (v:=?_) rfl (by kernel_rfl) (fun _ _ _ h=>h) (Or.inl ⟨by rfl,?_⟩) (KS _ (Below.refl _ _).drew) ?_;rotate_left
      · intro w' hSw;obtain ⟨hw0,hw1,hw2,hw3⟩:=hSw;go_simp
        try with_reducible rfl
      try simp only [Act.put,List.setIfInBounds_toArray,List.set_cons_zero,List.set_cons_succ,List.getElem_toArray,List.getElem_cons_zero,List.getElem_cons_succ]
      refine bE (i:=1) (v:=?_) rfl (by kernel_rfl) (fun _ _ _ h=>h) (Or.inl ⟨by rfl,?_⟩) (KS _ (Below.refl _ _).drew) ?_;rotate_left
      · intro w' hSw;obtain ⟨hw0,hw1,hw2,hw3⟩:=hSw;go_simp
        try with_reducible rfl
      try simp only [Act.put,List.setIfInBounds_toArray,List.set_cons_zero,List.set_cons_succ,List.getElem_toArray,List.getElem_cons_zero,List.getElem_cons_succ]
      refine bE (i:=2) (v:=?_) rfl (by kernel_rfl) (fun _ _ _ h=>h) (Or.inl ⟨by rfl,?_⟩) (KS _ (Below.refl _ _).drew) ?_;rotate_left
      · intro w' hSw;obtain ⟨hw0,hw1,hw2,hw3⟩:=hSw;go_simp
        try with_reducible rfl
      try simp only [Act.put,List.setIfInBounds_toArray,List.set_cons_zero,List.set_cons_succ,List.getElem_toArray,List.getElem_cons_zero,List.getElem_cons_succ]
      refine bE (i:=4) (v:=?_) rfl (by kernel_rfl) (fun _ _ _ h=>h) (Or.inl ⟨by rfl,?_⟩) (KS _ (Below.refl _ _).drew) ?_;rotate_left
      · intro w' hSw;obtain ⟨hw0,hw1,hw2,hw3⟩:=hSw;go_simp
        try with_reducible rfl
      try simp only [Act.put,List.setIfInBounds_toArray,List.set_cons_zero,List.set_cons_succ,List.getElem_toArray,List.getElem_cons_zero,List.getElem_cons_succ]
      refine bE (i:=5) (v:=?_) rfl (by kernel_rfl) (fun _ _ _ h=>h) (Or.inl ⟨by rfl,?_⟩) (KS _ (Below.refl _ _).drew) ?_;rotate_left
      · intro w' hSw;obtain ⟨hw0,hw1,hw2,hw3⟩:=hSw;go_simp
        try with_reducible rfl
      try simp only [Act.put,List.setIfInBounds_toArray,List.set_cons_zero,List.set_cons_succ,List.getElem_toArray,List.getElem_cons_zero,List.getElem_cons_succ]
      refine bE (i:=6) (v:=?_) rfl (by kernel_rfl) (fun _ _ _ h=>h) (Or.inl ⟨by rfl,?_⟩) (KS _ (Below.refl _ _).drew) ?_;rotate_left
      · intro w' hSw;obtain ⟨hw0,hw1,hw2,hw3⟩:=hSw;go_simp
        try with_reducible rfl
      try simp only [Act.put,List.setIfInBounds_toArray,List.set_cons_zero,List.set_cons_succ,List.getElem_toArray,List.getElem_cons_zero,List.getElem_cons_succ]
      refine bE (i:=7) (v:=?_) rfl (by kernel_rfl) (fun _ _ _ h=>h) (Or.inl ⟨by rfl,?_⟩) (KS _ (Below.refl _ _).drew) ?_;rotate_left
      · intro w' hSw;obtain ⟨hw0,hw1,hw2,hw3⟩:=hSw;go_simp
        try with_reducible rfl
      try simp only [Act.put,List.setIfInBounds_toArray,List.set_cons_zero,List.set_cons_succ,List.getElem_toArray,List.getElem_cons_zero,List.getElem_cons_succ]
      refine bQ (rs:=[3,8]) (by kernel_rfl) (by simp) ?_;refine bB.cons rfl (by decide) (fun K hK=>?_) ?_
      · go_simp;go_at_call 32;refine (wM.out _ (by first | exact flt.jQ _ _ | exact (Below.refl _ _).drew)).mono ?_;rintro e w5 ⟨v5,rfl,og,NQ,hb5⟩;obtain ⟨xs,F5,hown5,mH,uP,YH,hx5⟩:=og;refine hK.out _ _ (KS _ hb5) ?_;clear hK K
        try simp only [Act.put,List.setIfInBounds_toArray,List.set_cons_zero,List.set_cons_succ,List.getElem_toArray,List.getElem_cons_zero,List.getElem_cons_succ]
        refine bQ (rs:=[8]) (by kernel_rfl) (by simp) ?_;refine bB.cons rfl (by decide) (fun K hK=>?_) ?_
        · go_simp;refine hK.out _ _ ?_ ?_
          · first | exact KS _ (flt.jQ _ _) | exact KS _ (hb5.alloc hb5.size _)
          clear hK K
          try simp only [Act.put,List.setIfInBounds_toArray,List.set_cons_zero,List.set_cons_succ,List.getElem_toArray,List.getElem_cons_zero,List.getElem_cons_succ]
          refine bQ (rs:=[9]) (by kernel_rfl) (by simp) ?_;refine bB.cons rfl (by decide) (fun K hK=>?_) ?_
          · refine rot.iH (wd:=X) rfl (.tmp 32) (.tmp 37) 25 rfl 69 i0n _ 3 48 Tryz.underlying25 hin QN QO QS rfl (by decide) (by decide) _ (a5.length - 1) 1 xs [u0,u1,u2] rfl X.heap.size ?_ ?_ (some ⟨_,0,none⟩) rfl ?_ gJ.out fJ (by decide) ?_
            · first | exact hb5.size | exact (hb5.alloc hb5.size _).size
            · first | exact hown5 | exact own_below' hown5 ((Below.refl _ _).alloc (Nat.le_refl _) _)
            · first | exact jy | exact rot.fD (k:=3) (m:=1) _ _ _ rfl
            intro v6 w6 hown6 kg
            have hb6 : Below X.heap.size X w6:=by
              first | exact hb5.grown kg hb5.size (fun q hq=>(hown5.lt q hq).1) | exact (hb5.alloc hb5.size _).grown kg (hb5.alloc hb5.size _).size (fun q hq=>(hown5.lt q hq).1)
            have hxs : bq w6 X.heap.size 2 xs ((a5.drop 1).flatMap Need.row) F5:=by
              first | exact bq.kept (fun q hq=>kg.block q (uP.range q hq).2 (fun e=>hx5 q hq e.symm)) uP | exact bq.kept (fun q hq=>(kg.block q (Nat.lt_of_lt_of_le (uP.range q hq).2 (by simp)) (fun e=>hx5 q hq e.symm)).trans (Below.heap_alloc _ _ q (uP.range q hq).2)) uP
            obtain ⟨r1,r2,r3⟩:=FW.out w6 v6 xs F5 hxs hown6 hb6;obtain ⟨Az,cz,rfl⟩:=r3;have rl:=(Hf1.out.below hb6).set (j:=5) (u:=.slice Az (bn a5 1).length cz);have e6:=(KS _ hb6).1;have f6:=aC.frozen ((fV.out.call hb6).box) 5;refine hK.out _ _ (KS _ hb6) ?_;clear hK K
            try simp only [Act.put,List.setIfInBounds_toArray,List.set_cons_zero,List.set_cons_succ,List.getElem_toArray,List.getElem_cons_zero,List.getElem_cons_succ]
            refine bE (i:=10) (v:=?_) rfl (by kernel_rfl) (fun _ _ _ h=>h) (Or.inl ⟨by rfl,?_⟩) (KS _ hb6) ?_;rotate_left
            · intro w' hSw;obtain ⟨hw0,hw1,hw2,hw3⟩:=hSw;go_simp
              try with_reducible rfl
            try simp only [Act.put,List.setIfInBounds_toArray,List.set_cons_zero,List.set_cons_succ,List.getElem_toArray,List.getElem_cons_zero,List.getElem_cons_succ]
            refine jL (by kernel_rfl) (by kernel_rfl) rfl (fun K hK=>?_);go_simp;refine hK.out _ _ ?_;refine NoPanic.normal ?_;go_wp2_with fail;go_meet;exact ⟨rfl,_,⟨r1,rl⟩,r2,⟨_,_,rfl⟩⟩
          exact bB.nil
        exact bB.nil
      refine bB.cons rfl (by decide) (fun K hK=>?_) ?_
      · go_simp;refine hK.out _ _ ?_ ?_
        · first | exact KS _ (flt.jQ _ _) | exact KS _ (hb5.alloc hb5.size _)
        clear hK K
        try simp only [Act.put,List.setIfInBounds_toArray,List.set_cons_zero,List.set_cons_succ,List.getElem_toArray,List.getElem_cons_zero,List.getElem_cons_succ]
        refine bQ (rs:=[3]) (by kernel_rfl) (by simp) ?_;refine bB.cons rfl (by decide) (fun K hK=>?_) ?_
        · go_simp;go_at_call 32;refine (wM.out _ (by first | exact flt.jQ _ _ | exact (Below.refl _ _).drew)).mono ?_;rintro e w5 ⟨v5,rfl,og,NQ,hb5⟩;have jy : jI w5 (some ⟨X.heap.size,0,none⟩) 1 3 [u0,u1,u2]:=rot.oM rfl (eX NQ (by show _ < (X.alloc _).heap.size; simp) (heap_alloc_new X _));obtain ⟨xs,F5,hown5,mH,uP,YH,hx5⟩:=og;refine hK.out _ _ (KS _ hb5) ?_;clear hK K
          try simp only [Act.put,List.setIfInBounds_toArray,List.set_cons_zero,List.set_cons_succ,List.getElem_toArray,List.getElem_cons_zero,List.getElem_cons_succ]
          refine bQ (rs:=[9]) (by kernel_rfl) (by simp) ?_;refine bB.cons rfl (by decide) (fun K hK=>?_) ?_
          · refine rot.iH (wd:=X) rfl (.tmp 32) (.tmp 37) 25 rfl 69 i0n _ 3 48 Tryz.underlying25 hin QN QO QS rfl (by decide) (by decide) _ (a5.length - 1) 1 xs [u0,u1,u2] rfl X.heap.size ?_ ?_ (some ⟨_,0,none⟩) rfl ?_ gJ.out fJ (by decide) ?_
            · first | exact hb5.size | exact (hb5.alloc hb5.size _).size
            · first | exact hown5 | exact own_below' hown5 ((Below.refl _ _).alloc (Nat.le_refl _) _)
            · first | exact jy | exact rot.fD (k:=3) (m:=1) _ _ _ rfl
            intro v6 w6 hown6 kg
            have hb6 : Below X.heap.size X w6:=by
              first | exact hb5.grown kg hb5.size (fun q hq=>(hown5.lt q hq).1) | exact (hb5.alloc hb5.size _).grown kg (hb5.alloc hb5.size _).size (fun q hq=>(hown5.lt q hq).1)
            have hxs : bq w6 X.heap.size 2 xs ((a5.drop 1).flatMap Need.row) F5:=by
              first | exact bq.kept (fun q hq=>kg.block q (uP.range q hq).2 (fun e=>hx5 q hq e.symm)) uP | exact bq.kept (fun q hq=>(kg.block q (Nat.lt_of_lt_of_le (uP.range q hq).2 (by simp)) (fun e=>hx5 q hq e.symm)).trans (Below.heap_alloc _ _ q (uP.range q hq).2)) uP
            obtain ⟨r1,r2,r3⟩:=FW.out w6 v6 xs F5 hxs hown6 hb6;obtain ⟨Az,cz,rfl⟩:=r3;have rl:=(Hf1.out.below hb6).set (j:=5) (u:=.slice Az (bn a5 1).length cz);have e6:=(KS _ hb6).1;have f6:=aC.frozen ((fV.out.call hb6).box) 5;refine hK.out _ _ (KS _ hb6) ?_;clear hK K
            try simp only [Act.put,List.setIfInBounds_toArray,List.set_cons_zero,List.set_cons_succ,List.getElem_toArray,List.getElem_cons_zero,List.getElem_cons_succ]
            refine bE (i:=10) (v:=?_) rfl (by kernel_rfl) (fun _ _ _ h=>h) (Or.inl ⟨by rfl,?_⟩) (KS _ hb6) ?_;rotate_left
            · intro w' hSw;obtain ⟨hw0,hw1,hw2,hw3⟩:=hSw;go_simp
              try with_reducible rfl
            try simp only [Act.put,List.setIfInBounds_toArray,List.set_cons_zero,List.set_cons_succ,List.getElem_toArray,List.getElem_cons_zero,List.getElem_cons_succ]
            refine jL (by kernel_rfl) (by kernel_rfl) rfl (fun K hK=>?_);go_simp;refine hK.out _ _ ?_;refine NoPanic.normal ?_;go_wp2_with fail;go_meet;exact ⟨rfl,_,⟨r1,rl⟩,r2,⟨_,_,rfl⟩⟩
          exact bB.nil
        exact bB.nil
      exact bB.nil
    case rest=>
      obtain ⟨rfl,v6,⟨FZ,hf1⟩,FY,Az,cz,rfl⟩:=hcut;have vQ:=Lib.hid FZ;clear FZ FW qP iG gJ NN wM Hsm;obtain ⟨g1,k1⟩:=(hf1).res #[.string a0,.slice A1 a1.length c1,.int .i64 a2,.int .i64 a3,.int .i64 a4,.slice Az (bn a5 1).length cz,.slice A6 a6.length c6];obtain ⟨g5,k5⟩:=(FY).res #[.string a0,.slice A1 a1.length c1,.int .i64 a2,.int .i64 a3,.int .i64 a4,.slice Az (bn a5 1).length cz,.slice A6 a6.length c6];obtain ⟨g6,k6⟩:=(vQ.out.yY O6.out Hr.out).res #[.string a0,.slice A1 a1.length c1,.int .i64 a2,.int .i64 a3,.int .i64 a4,.slice Az (bn a5 1).length cz,.slice A6 a6.length c6];have dJ:=vQ.out.box;have bJ:=vQ.out.row Hz.out;unfold aC at bJ dJ
      have FV : aH (wc.setRow w.heap.size #[.string a0,.slice A1 a1.length c1,.int .i64 a2,.int .i64 a3,.int .i64 a4,.slice Az (bn a5 1).length cz,.slice A6 a6.length c6]) (g1 + g5 + g6 + 1) [.string a0,.slice A1 a1.length c1,.int .i64 a2,.int .i64 a3,.int .i64 a4,.slice Az (bn a5 1).length cz,.slice A6 a6.length c6] (Pod.row ⟨a0,a1,a2,a3,a4,bn a5 1,a6⟩):=by
        unfold Pod.row;exact aH.cons (show bf _ (g1 + g5 + g6 + 1) _ _ from ⟨rfl,eU.out.1⟩) (aH.cons (bf.deeper (by omega) k1) (aH.cons (show bf _ (g1 + g5 + g6 + 1) _ _ from ⟨rfl,eU.out.2.1⟩) (aH.cons (show bf _ (g1 + g5 + g6 + 1) _ _ from ⟨rfl,eU.out.2.2.1⟩) (aH.cons (show bf _ (g1 + g5 + g6 + 1) _ _ from ⟨rfl,eU.out.2.2.2⟩) (aH.cons (bf.deeper (by omega) k5) (aH.cons (bf.deeper (by omega) k6) (aH.nil)))))))
      have HR : Hid (rG Pod.row lW w (.returned (.agg #[.string a0,.slice A1 a1.length c1,.int .i64 a2,.int .i64 a3,.int .i64 a4,.slice Az (bn a5 1).length cz,.slice A6 a6.length c6])) (wc.setRow w.heap.size #[.string a0,.slice A1 a1.length c1,.int .i64 a2,.int .i64 a3,.int .i64 a4,.slice Az (bn a5 1).length cz,.slice A6 a6.length c6])):=⟨⟨a0,a1,a2,a3,a4,bn a5 1,a6⟩,_,g1 + g5 + g6 + 1,QM.out,rfl,FV,ay vQ.out.gK (Nat.le_refl _) _⟩;clear FV k1 k5 k6;go_wp2_with (first | (refine wpList_load_row rfl 28 _ rfl b rfl 28 #[.string a0,.slice A1 a1.length c1,.int .i64 a2,.int .i64 a3,.int .i64 a4,.slice Az (bn a5 1).length cz,.slice A6 a6.length c6] (0,0) _ dJ Tryz.underlying28 rfl aS ?_) | (refine wpList_store_row rfl 28 _ _ rfl w.heap.size #[.string a0,.slice A1 a1.length c1,.int .i64 a2,.int .i64 a3,.int .i64 a4,.slice Az (bn a5 1).length cz,.slice A6 a6.length c6] rfl rfl 28 _ bJ aS rfl (by simp [Value.oneCell']) ?_) | fail);refine bodyPost_ret (v:=.agg #[.string a0,.slice A1 a1.length c1,.int .i64 a2,.int .i64 a3,.int .i64 a4,.slice Az (bn a5 1).length cz,.slice A6 a6.length c6]) ?_ rfl HR.out;exact results_cell_row rfl _ _ w.heap.size _ _ (0,0) _ rfl (aI bJ) Tryz.underlying28 rfl aS
  obtain ⟨g,hA,hcap,hg2⟩:=rot.vB O1.out (by omega);subst hA;obtain ⟨raw,F9,uQ,hos⟩:=rot.yJ O1.out;obtain ⟨u0,u1,rest,hraw⟩:=rot.VL (xs:=raw) (by rw [uQ.1]; omega);have hgl : g < X.heap.size:=Nat.lt_of_lt_of_le hg2 fV.out.size;have hrd:=vv uQ fV.out.size fV.out.old;have WM : X.cell? ⟨g,0,none⟩ = some u0:=rot.gB hrd (by omega) (by rw [hraw]; rfl);have WO : X.cell? ⟨g,1,none⟩ = some u1:=rot.gB hrd (by omega) (by rw [hraw]; rfl);have qP:=Lib.hid (rot.vk hrd (by omega));have fK:=rot.fF hos.lies;have iG:=Lib.hid (show ∀ u ∈ raw.drop 2,u.oneCell' = true from fun u hu=>fK u (List.mem_of_mem_drop hu));have gJ:=Lib.hid (show ∀ u ∈ [u0,u1],u.oneCell' = true from fun u hu=>fK u (by rw [hraw]; simp at hu ⊢; rcases hu with rfl | rfl <;> simp));have NN:=Lib.hid (show raw.take (1 * 2) = [u0,u1] by rw [hraw]; rfl);have WQ:=Lib.hid fV.out.lt;have pf:=fV.out.box.cell 1 _ rfl;have fJ : a1.length - 1 ≤ 64:=(by have:=WR; omega);have hN0 : 0 < a1.length:=(by omega);have hn1 : (1 : Int) ≤ (a1.length : Int):=(by omega);have hn0 : (0 : Int) < (a1.length : Int):=(by omega);have hn2 : (1 : Int) < (a1.length : Int):=(by omega);have hc1 : ¬ c1 = 1:=(by omega);have FW:=Lib.hid (fun w6 v6 (h1 : w6.ownsRow X.heap.size 65 2 v6 (a1.length - 1 + 1) (raw.drop 2 ++ [u0,u1])) (h2 : Below X.heap.size X w6)=>rot.tX.turned (m:=1) Label.au fV.out 1 hos Hr.out (by omega) (by omega) (by rw [NN.out]; exact h1) h2);have YF:=Lib.hid hos;have YG:=Lib.hid (show c1 ≤ maxLen from let ⟨_,_,e,_,h2,_⟩:=O1.out.lies.sl; by injection e with _ _ e3; rw [e3]; exact h2);clear hrd uQ hos fK hraw hg2;have WS:=Lib.hid (show lW ⟨a0,bn a1 1,a2,a3,a4,a5,a6⟩ from ⟨HP.out.1,⟨by rw [lN (by omega) (by omega)]; omega,fun y hy=>HP.out.2.1.2 y (vw y hy)⟩,HP.out.2.2⟩);go_upto_region 4 with fail;go_cut [4] from 13 to 24 (fun s4 wx=>s4 = .pointer (some ⟨b,0,none⟩) ∧ ∃ v6,tX 28 w w2 b [.string a0,v6,.int .i64 a2,.int .i64 a3,.int .i64 a4,.slice A5 a5.length c5,.slice A6 a6.length c6] wx ∧ nJ w.heap.size b wx v6 (.sl 2 (bn a1 1).length ((bn a1 1).flatMap Label.row)) ∧ ∃ A c,v6 = .slice A (bn a1 1).length c)
  case first=>
    have KS : ∀ Z9 : World,Below X.heap.size X Z9 → Z9.cell? ⟨b,1,none⟩ = some (.slice (some ⟨g,0,none⟩) a1.length c1) ∧ Z9.cell? ⟨g,0,none⟩ = some u0 ∧ Z9.cell? ⟨g,1,none⟩ = some u1:=fun Z9 hb=>⟨(World.cell?_of_block (hb.block b WQ.out)).trans pf,(World.cell?_of_block (hb.block g hgl)).trans WM,(World.cell?_of_block (hb.block g hgl)).trans WO⟩;refine wp_region_noPanic ?_;refine nU 12 (by kernel_rfl) (fun w'=>w'.cell? ⟨b,1,none⟩ = some (.slice (some ⟨g,0,none⟩) a1.length c1) ∧ w'.cell? ⟨g,0,none⟩ = some u0 ∧ w'.cell? ⟨g,1,none⟩ = some u1) ?_;refine bE (i:=1) (v:=?_) rfl (by kernel_rfl) (fun _ _ _ h=>h) (Or.inl ⟨by rfl,?_⟩) (KS _ (Below.refl _ _).drew) ?_;rotate_left
    · intro w' hSw;obtain ⟨hw0,hw1,hw2⟩:=hSw;go_simp
      try with_reducible rfl
    try simp only [Act.put,List.setIfInBounds_toArray,List.set_cons_zero,List.set_cons_succ,List.getElem_toArray,List.getElem_cons_zero,List.getElem_cons_succ]
    refine bE (i:=2) (v:=?_) rfl (by kernel_rfl) (fun _ _ _ h=>h) (Or.inl ⟨by rfl,?_⟩) (KS _ (Below.refl _ _).drew) ?_;rotate_left
    · intro w' hSw;obtain ⟨hw0,hw1,hw2⟩:=hSw;go_simp
      try with_reducible rfl
    try simp only [Act.put,List.setIfInBounds_toArray,List.set_cons_zero,List.set_cons_succ,List.getElem_toArray,List.getElem_cons_zero,List.getElem_cons_succ]
    refine bE (i:=3) (v:=?_) rfl (by kernel_rfl) (fun _ _ _ h=>h) (Or.inl ⟨by rfl,?_⟩) (KS _ (Below.refl _ _).drew) ?_;rotate_left
    · intro w' hSw;obtain ⟨hw0,hw1,hw2⟩:=hSw;go_simp
      try with_reducible rfl
    try simp only [Act.put,List.setIfInBounds_toArray,List.set_cons_zero,List.set_cons_succ,List.getElem_toArray,List.getElem_cons_zero,List.getElem_cons_succ]
    refine bE (i:=5) (v:=?_) rfl (by kernel_rfl) (fun _ _ _ h=>h) (Or.inl ⟨by rfl,?_⟩) (KS _ (Below.refl _ _).drew) ?_;rotate_left
    · intro w' hSw;obtain ⟨hw0,hw1,hw2⟩:=hSw;go_simp
      try with_reducible rfl
    try simp only [Act.put,List.setIfInBounds_toArray,List.set_cons_zero,List.set_cons_succ,List.getElem_toArray,List.getElem_cons_zero,List.getElem_cons_succ]
    refine bE (i:=6) (v:=?_) rfl (by kernel_rfl) (fun _ _ _ h=>h) (Or.inl ⟨by rfl,?_⟩) (KS _ (Below.refl _ _).drew) ?_;rotate_left
    · intro w' hSw;obtain ⟨hw0,hw1,hw2⟩:=hSw;go_simp
      try with_reducible rfl
    try simp only [Act.put,List.setIfInBounds_toArray,List.set_cons_zero,List.set_cons_succ,List.getElem_toArray,List.getElem_cons_zero,List.getElem_cons_succ]
    refine bE (i:=7) (v:=?_) rfl (by kernel_rfl) (fun _ _ _ h=>h) (Or.inl ⟨by rfl,?_⟩) (KS _ (Below.refl _ _).drew) ?_;rotate_left
    · intro w' hSw;obtain ⟨hw0,hw1,hw2⟩:=hSw;go_simp
      try with_reducible rfl
    try simp only [Act.put,List.setIfInBounds_toArray,List.set_cons_zero,List.set_cons_succ,List.getElem_toArray,List.getElem_cons_zero,List.getElem_cons_succ]
    refine bE (i:=8) (v:=?_) rfl (by kernel_rfl) (fun _ _ _ h=>h) (Or.inl ⟨by rfl,?_⟩) (KS _ (Below.refl _ _).drew) ?_;rotate_left
    · intro w' hSw;obtain ⟨hw0,hw1,hw2⟩:=hSw;go_simp
      try with_reducible rfl
    try simp only [Act.put,List.setIfInBounds_toArray,List.set_cons_zero,List.set_cons_succ,List.getElem_toArray,List.getElem_cons_zero,List.getElem_cons_succ]
    refine bQ (rs:=[0,9]) (by kernel_rfl) (by simp) ?_;refine bB.cons rfl (by decide) (fun K hK=>?_) ?_
    · go_simp;refine hK.out _ _ ?_ ?_
      · first | exact KS _ (flt.jQ _ _) | exact KS _ (flt.mQ _ _ _) | exact KS _ (hb5.alloc hb5.size _)
      clear hK K
      try simp only [Act.put,List.setIfInBounds_toArray,List.set_cons_zero,List.set_cons_succ,List.getElem_toArray,List.getElem_cons_zero,List.getElem_cons_succ]
      refine bQ (rs:=[4,9]) (by kernel_rfl) (by simp) ?_;refine bB.cons rfl (by decide) (fun K hK=>?_) ?_
      · refine flt.eY (wd:=X) rfl (.tmp 13) (.tmp 16) 24 rfl 65 i0 _ 2 32 Tryz.underlying24 hi hz0 hz1 hz2 rfl (by decide) (by decide) _ rfl ?_ ?_ (some ⟨g,2,none⟩) (a1.length - 1) (c1 - 1) (raw.drop 2) rfl qP.out iG.out fJ ?_
        · first | exact flt.jQ _ _ | exact flt.mQ _ _ _
        · first | exact flt.wP _ _ _ | exact flt.wQ _ _ _ _ | exact flt.wR _ _ _ _
        intro v5 w5 hown5 hb5 hs5 bN;refine hK.out _ _ (KS _ hb5) ?_;clear hK K
        try simp only [Act.put,List.setIfInBounds_toArray,List.set_cons_zero,List.set_cons_succ,List.getElem_toArray,List.getElem_cons_zero,List.getElem_cons_succ]
        refine bQ (rs:=[9]) (by kernel_rfl) (by simp) ?_;refine bB.cons rfl (by decide) (fun K hK=>?_) ?_
        · go_simp;refine hK.out _ _ ?_ ?_
          · first | exact KS _ (flt.jQ _ _) | exact KS _ (flt.mQ _ _ _) | exact KS _ (hb5.alloc hb5.size _)
          clear hK K
          try simp only [Act.put,List.setIfInBounds_toArray,List.set_cons_zero,List.set_cons_succ,List.getElem_toArray,List.getElem_cons_zero,List.getElem_cons_succ]
          refine bQ (rs:=[10]) (by kernel_rfl) (by simp) ?_;refine bB.cons rfl (by decide) (fun K hK=>?_) ?_
          · refine rot.iH (wd:=X) rfl (.tmp 17) (.tmp 22) 24 rfl 65 i0 _ 2 32 Tryz.underlying24 hi hz0 hz1 hz2 rfl (by decide) (by decide) _ (a1.length - 1) 1 (raw.drop 2) [u0,u1] rfl X.heap.size ?_ ?_ (some ⟨_,0,none⟩) rfl ?_ gJ.out fJ (by decide) ?_
            · first | exact hb5.size | exact (hb5.alloc hb5.size _).size
            · first | exact hown5 | exact own_below' hown5 ((Below.refl _ _).alloc (Nat.le_refl _) _)
            · first | exact jy | exact rot.fD (k:=2) (m:=1) _ _ _ rfl
            intro v6 w6 hown6 kg
            have hb6 : Below X.heap.size X w6:=by
              first | exact hb5.grown kg hb5.size (fun q hq=>(hown5.lt q hq).1) | exact (hb5.alloc hb5.size _).grown kg (hb5.alloc hb5.size _).size (fun q hq=>(hown5.lt q hq).1)
            obtain ⟨r1,r2,r3⟩:=FW.out w6 v6 hown6 hb6;obtain ⟨Az,cz,rfl⟩:=r3;have e6:=(KS _ hb6).1;have f6:=aC.frozen ((fV.out.call hb6).box) 1;refine hK.out _ _ (KS _ hb6) ?_;clear hK K
            try simp only [Act.put,List.setIfInBounds_toArray,List.set_cons_zero,List.set_cons_succ,List.getElem_toArray,List.getElem_cons_zero,List.getElem_cons_succ]
            refine bE (i:=11) (v:=?_) rfl (by kernel_rfl) (fun _ _ _ h=>h) (Or.inl ⟨by rfl,?_⟩) (KS _ hb6) ?_;rotate_left
            · intro w' hSw;obtain ⟨hw0,hw1,hw2⟩:=hSw;go_simp
              try with_reducible rfl
            try simp only [Act.put,List.setIfInBounds_toArray,List.set_cons_zero,List.set_cons_succ,List.getElem_toArray,List.getElem_cons_zero,List.getElem_cons_succ]
            refine jL (by kernel_rfl) (by kernel_rfl) rfl (fun K hK=>?_);go_simp;refine hK.out _ _ ?_;refine NoPanic.normal ?_;go_wp2_with fail;go_meet;exact ⟨rfl,_,r1,r2,⟨_,_,rfl⟩⟩
          exact bB.nil
        exact bB.nil
      refine bB.cons rfl (by decide) (fun K hK=>?_) ?_
      · go_simp;refine hK.out _ _ ?_ ?_
        · first | exact KS _ (flt.jQ _ _) | exact KS _ (flt.mQ _ _ _) | exact KS _ (hb5.alloc hb5.size _)
        clear hK K
        try simp only [Act.put,List.setIfInBounds_toArray,List.set_cons_zero,List.set_cons_succ,List.getElem_toArray,List.getElem_cons_zero,List.getElem_cons_succ]
        refine bQ (rs:=[4]) (by kernel_rfl) (by simp) ?_;refine bB.cons rfl (by decide) (fun K hK=>?_) ?_
        · refine flt.eY (wd:=X) rfl (.tmp 13) (.tmp 16) 24 rfl 65 i0 _ 2 32 Tryz.underlying24 hi hz0 hz1 hz2 rfl (by decide) (by decide) _ rfl ?_ ?_ (some ⟨g,2,none⟩) (a1.length - 1) (c1 - 1) (raw.drop 2) rfl qP.out iG.out fJ ?_
          · first | exact flt.jQ _ _ | exact flt.mQ _ _ _
          · first | exact flt.wP _ _ _ | exact flt.wQ _ _ _ _ | exact flt.wR _ _ _ _
          intro v5 w5 hown5 hb5 hs5 bN
          first | have jy:=rot.yw (k:=2) (m:=1) (xs:=[u0,u1]) rfl bN | have jy:=rot.yx (k:=2) (m:=1) (xs:=[u0,u1]) rfl bN
          refine hK.out _ _ (KS _ hb5) ?_;clear hK K
          try simp only [Act.put,List.setIfInBounds_toArray,List.set_cons_zero,List.set_cons_succ,List.getElem_toArray,List.getElem_cons_zero,List.getElem_cons_succ]
          refine bQ (rs:=[10]) (by kernel_rfl) (by simp) ?_;refine bB.cons rfl (by decide) (fun K hK=>?_) ?_
          · refine rot.iH (wd:=X) rfl (.tmp 17) (.tmp 22) 24 rfl 65 i0 _ 2 32 Tryz.underlying24 hi hz0 hz1 hz2 rfl (by decide) (by decide) _ (a1.length - 1) 1 (raw.drop 2) [u0,u1] rfl X.heap.size ?_ ?_ (some ⟨_,0,none⟩) rfl ?_ gJ.out fJ (by decide) ?_
            · first | exact hb5.size | exact (hb5.alloc hb5.size _).size
            · first | exact hown5 | exact own_below' hown5 ((Below.refl _ _).alloc (Nat.le_refl _) _)
            · first | exact jy | exact rot.fD (k:=2) (m:=1) _ _ _ rfl
            intro v6 w6 hown6 kg
            have hb6 : Below X.heap.size X w6:=by
              first | exact hb5.grown kg hb5.size (fun q hq=>(hown5.lt q hq).1) | exact (hb5.alloc hb5.size _).grown kg (hb5.alloc hb5.size _).size (fun q hq=>(hown5.lt q hq).1)
            obtain ⟨r1,r2,r3⟩:=FW.out w6 v6 hown6 hb6;obtain ⟨Az,cz,rfl⟩:=r3;have e6:=(KS _ hb6).1;have f6:=aC.frozen ((fV.out.call hb6).box) 1;refine hK.out _ _ (KS _ hb6) ?_;clear hK K
            try simp only [Act.put,List.setIfInBounds_toArray,List.set_cons_zero,List.set_cons_succ,List.getElem_toArray,List.getElem_cons_zero,List.getElem_cons_succ]
            refine bE (i:=11) (v:=?_) rfl (by kernel_rfl) (fun _ _ _ h=>h) (Or.inl ⟨by rfl,?_⟩) (KS _ hb6) ?_;rotate_left
            · intro w' hSw;obtain ⟨hw0,hw1,hw2⟩:=hSw;go_simp
              try with_reducible rfl
            try simp only [Act.put,List.setIfInBounds_toArray,List.set_cons_zero,List.set_cons_succ,List.getElem_toArray,List.getElem_cons_zero,List.getElem_cons_succ]
            refine jL (by kernel_rfl) (by kernel_rfl) rfl (fun K hK=>?_);go_simp;refine hK.out _ _ ?_;refine NoPanic.normal ?_;go_wp2_with fail;go_meet;exact ⟨rfl,_,r1,r2,⟨_,_,rfl⟩⟩
          exact bB.nil
        exact bB.nil
      exact bB.nil
    refine bB.cons rfl (by decide) (fun K hK=>?_) ?_
    · go_simp;refine hK.out _ _ ?_ ?_
      · first | exact KS _ (flt.jQ _ _) | exact KS _ (flt.mQ _ _ _) | exact KS _ (hb5.alloc hb5.size _)
      clear hK K
      try simp only [Act.put,List.setIfInBounds_toArray,List.set_cons_zero,List.set_cons_succ,List.getElem_toArray,List.getElem_cons_zero,List.getElem_cons_succ]
      refine bQ (rs:=[0]) (by kernel_rfl) (by simp) ?_;refine bB.cons rfl (by decide) (fun K hK=>?_) ?_
      · go_simp;refine hK.out _ _ ?_ ?_
        · first | exact KS _ (flt.jQ _ _) | exact KS _ (flt.mQ _ _ _) | exact KS _ (hb5.alloc hb5.size _)
        clear hK K
        try simp only [Act.put,List.setIfInBounds_toArray,List.set_cons_zero,List.set_cons_succ,List.getElem_toArray,List.getElem_cons_zero,List.getElem_cons_succ]
        refine bQ (rs:=[4]) (by kernel_rfl) (by simp) ?_;refine bB.cons rfl (by decide) (fun K hK=>?_) ?_
        · refine flt.eY (wd:=X) rfl (.tmp 13) (.tmp 16) 24 rfl 65 i0 _ 2 32 Tryz.underlying24 hi hz0 hz1 hz2 rfl (by decide) (by decide) _ rfl ?_ ?_ (some ⟨g,2,none⟩) (a1.length - 1) (c1 - 1) (raw.drop 2) rfl qP.out iG.out fJ ?_
          · first | exact flt.jQ _ _ | exact flt.mQ _ _ _
          · first | exact flt.wP _ _ _ | exact flt.wQ _ _ _ _ | exact flt.wR _ _ _ _
          intro v5 w5 hown5 hb5 hs5 bN
          first | have jy:=rot.yw (k:=2) (m:=1) (xs:=[u0,u1]) rfl bN | have jy:=rot.yx (k:=2) (m:=1) (xs:=[u0,u1]) rfl bN
          refine hK.out _ _ (KS _ hb5) ?_;clear hK K
          try simp only [Act.put,List.setIfInBounds_toArray,List.set_cons_zero,List.set_cons_succ,List.getElem_toArray,List.getElem_cons_zero,List.getElem_cons_succ]
          refine bQ (rs:=[10]) (by kernel_rfl) (by simp) ?_;refine bB.cons rfl (by decide) (fun K hK=>?_) ?_
          · refine rot.iH (wd:=X) rfl (.tmp 17) (.tmp 22) 24 rfl 65 i0 _ 2 32 Tryz.underlying24 hi hz0 hz1 hz2 rfl (by decide) (by decide) _ (a1.length - 1) 1 (raw.drop 2) [u0,u1] rfl X.heap.size ?_ ?_ (some ⟨_,0,none⟩) rfl ?_ gJ.out fJ (by decide) ?_
            · first | exact hb5.size | exact (hb5.alloc hb5.size _).size
            · first | exact hown5 | exact own_below' hown5 ((Below.refl _ _).alloc (Nat.le_refl _) _)
            · first | exact jy | exact rot.fD (k:=2) (m:=1) _ _ _ rfl
            intro v6 w6 hown6 kg
            have hb6 : Below X.heap.size X w6:=by
              first | exact hb5.grown kg hb5.size (fun q hq=>(hown5.lt q hq).1) | exact (hb5.alloc hb5.size _).grown kg (hb5.alloc hb5.size _).size (fun q hq=>(hown5.lt q hq).1)
            obtain ⟨r1,r2,r3⟩:=FW.out w6 v6 hown6 hb6;obtain ⟨Az,cz,rfl⟩:=r3;have e6:=(KS _ hb6).1;have f6:=aC.frozen ((fV.out.call hb6).box) 1;refine hK.out _ _ (KS _ hb6) ?_;clear hK K
            try simp only [Act.put,List.setIfInBounds_toArray,List.set_cons_zero,List.set_cons_succ,List.getElem_toArray,List.getElem_cons_zero,List.getElem_cons_succ]
            refine bE (i:=11) (v:=?_) rfl (by kernel_rfl) (fun _ _ _ h=>h) (Or.inl ⟨by rfl,?_⟩) (KS _ hb6) ?_;rotate_left
            · intro w' hSw;obtain ⟨hw0,hw1,hw2⟩:=hSw;go_simp
              try with_reducible rfl
            try simp only [Act.put,List.setIfInBounds_toArray,List.set_cons_zero,List.set_cons_succ,List.getElem_toArray,List.getElem_cons_zero,List.getElem_cons_succ]
            refine jL (by kernel_rfl) (by kernel_rfl) rfl (fun K hK=>?_);go_simp;refine hK.out _ _ ?_;refine NoPanic.normal ?_;go_wp2_with fail;go_meet;exact ⟨rfl,_,r1,r2,⟨_,_,rfl⟩⟩
          exact bB.nil
        exact bB.nil
      exact bB.nil
    exact bB.nil
  case rest=>
    obtain ⟨rfl,v6,FX,NR,A1,c1,rfl⟩:=hcut;have jA:=Lib.hid FX;have NS:=Lib.hid NR;clear FX NR FW qP iG gJ NN;obtain ⟨Y,rfl⟩ : ∃ Y,Y = wc:=⟨_,rfl⟩;go_upto_region 5 with fail;have p5y:=jA.out.box.cell 5 _ rfl;by_cases hm : 1 < a5.length
    case neg=>
      have yZ : ¬ (1 : Int) < (a5.length : Int):=(by omega);obtain ⟨g1,k1⟩:=(NS.out).res #[.string a0,.slice A1 (bn a1 1).length c1,.int .i64 a2,.int .i64 a3,.int .i64 a4,.slice A5 a5.length c5,.slice A6 a6.length c6];obtain ⟨g5,k5⟩:=(jA.out.yY O5.out Hr.out).res #[.string a0,.slice A1 (bn a1 1).length c1,.int .i64 a2,.int .i64 a3,.int .i64 a4,.slice A5 a5.length c5,.slice A6 a6.length c6];obtain ⟨g6,k6⟩:=(jA.out.yY O6.out Hr.out).res #[.string a0,.slice A1 (bn a1 1).length c1,.int .i64 a2,.int .i64 a3,.int .i64 a4,.slice A5 a5.length c5,.slice A6 a6.length c6];have dJ:=jA.out.box;have bJ:=jA.out.row Hz.out;unfold aC at bJ dJ
      have FV : aH (Y.setRow w.heap.size #[.string a0,.slice A1 (bn a1 1).length c1,.int .i64 a2,.int .i64 a3,.int .i64 a4,.slice A5 a5.length c5,.slice A6 a6.length c6]) (g1 + g5 + g6 + 1) [.string a0,.slice A1 (bn a1 1).length c1,.int .i64 a2,.int .i64 a3,.int .i64 a4,.slice A5 a5.length c5,.slice A6 a6.length c6] (Pod.row ⟨a0,bn a1 1,a2,a3,a4,a5,a6⟩):=by
        unfold Pod.row;exact aH.cons (show bf _ (g1 + g5 + g6 + 1) _ _ from ⟨rfl,eU.out.1⟩) (aH.cons (bf.deeper (by omega) k1) (aH.cons (show bf _ (g1 + g5 + g6 + 1) _ _ from ⟨rfl,eU.out.2.1⟩) (aH.cons (show bf _ (g1 + g5 + g6 + 1) _ _ from ⟨rfl,eU.out.2.2.1⟩) (aH.cons (show bf _ (g1 + g5 + g6 + 1) _ _ from ⟨rfl,eU.out.2.2.2⟩) (aH.cons (bf.deeper (by omega) k5) (aH.cons (bf.deeper (by omega) k6) (aH.nil)))))))
      have HR : Hid (rG Pod.row lW w (.returned (.agg #[.string a0,.slice A1 (bn a1 1).length c1,.int .i64 a2,.int .i64 a3,.int .i64 a4,.slice A5 a5.length c5,.slice A6 a6.length c6])) (Y.setRow w.heap.size #[.string a0,.slice A1 (bn a1 1).length c1,.int .i64 a2,.int .i64 a3,.int .i64 a4,.slice A5 a5.length c5,.slice A6 a6.length c6])):=⟨⟨a0,bn a1 1,a2,a3,a4,a5,a6⟩,_,g1 + g5 + g6 + 1,WS.out,rfl,FV,ay jA.out.gK (Nat.le_refl _) _⟩;clear FV k1 k5 k6;go_wp2_with (first | (refine wpList_load_row rfl 28 _ rfl b rfl 28 #[.string a0,.slice A1 (bn a1 1).length c1,.int .i64 a2,.int .i64 a3,.int .i64 a4,.slice A5 a5.length c5,.slice A6 a6.length c6] (0,0) _ dJ Tryz.underlying28 rfl aS ?_) | (refine wpList_store_row rfl 28 _ _ rfl w.heap.size #[.string a0,.slice A1 (bn a1 1).length c1,.int .i64 a2,.int .i64 a3,.int .i64 a4,.slice A5 a5.length c5,.slice A6 a6.length c6] rfl rfl 28 _ bJ aS rfl (by simp [Value.oneCell']) ?_) | fail);refine bodyPost_ret (v:=.agg #[.string a0,.slice A1 (bn a1 1).length c1,.int .i64 a2,.int .i64 a3,.int .i64 a4,.slice A5 a5.length c5,.slice A6 a6.length c6]) ?_ rfl HR.out;exact results_cell_row rfl _ _ w.heap.size _ _ (0,0) _ rfl (aI bJ) Tryz.underlying28 rfl aS
    obtain ⟨g,hA,hcap,hg2⟩:=rot.vB O5.out (by omega);subst hA;obtain ⟨raw,F9,uQ,hos⟩:=rot.yJ O5.out;obtain ⟨u0,u1,u2,rest,hraw⟩:=rot.BH (xs:=raw) (by rw [uQ.1]; omega);have hgl : g < Y.heap.size:=Nat.lt_of_lt_of_le hg2 jA.out.size;have hrd:=vv uQ jA.out.size jA.out.old;have WM : Y.cell? ⟨g,0,none⟩ = some u0:=rot.gB hrd (by omega) (by rw [hraw]; rfl);have WO : Y.cell? ⟨g,1,none⟩ = some u1:=rot.gB hrd (by omega) (by rw [hraw]; rfl);have YE : Y.cell? ⟨g,2,none⟩ = some u2:=rot.gB hrd (by omega) (by rw [hraw]; rfl);have qP:=Lib.hid (rot.vk hrd (by omega));have fK:=rot.fF hos.lies;have iG:=Lib.hid (show ∀ u ∈ raw.drop 3,u.oneCell' = true from fun u hu=>fK u (List.mem_of_mem_drop hu));have gJ:=Lib.hid (show ∀ u ∈ [u0,u1,u2],u.oneCell' = true from fun u hu=>fK u (by rw [hraw]; simp at hu ⊢; rcases hu with rfl | rfl | rfl <;> simp));have NN:=Lib.hid (show raw.take (1 * 3) = [u0,u1,u2] by rw [hraw]; rfl);have WQ:=Lib.hid jA.out.lt;have pf:=jA.out.box.cell 5 _ rfl;have fJ : a5.length - 1 ≤ 64:=(by have:=NP; omega);have hN0 : 0 < a5.length:=(by omega);have hn1 : (1 : Int) ≤ (a5.length : Int):=(by omega);have hn0 : (0 : Int) < (a5.length : Int):=(by omega);have hn2 : (1 : Int) < (a5.length : Int):=(by omega);have hc1 : ¬ c5 = 1:=(by omega);have FW:=Lib.hid (fun w6 v6 xs F5 (hxs : bq w6 Y.heap.size 2 xs ((a5.drop 1).flatMap Need.row) F5) (h1 : w6.ownsRow Y.heap.size 69 3 v6 (a5.length - 1 + 1) (xs ++ [u0,u1,u2])) (h2 : Below Y.heap.size Y w6)=>rot.tX.Jh Need.au jA.out 5 hos Hr.out (by omega) hxs (by rw [NN.out]; exact h1) h2);have YF:=Lib.hid hos;have YG:=Lib.hid (show c5 ≤ maxLen from let ⟨_,_,e,_,h2,_⟩:=O5.out.lies.sl; by injection e with _ _ e3; rw [e3]; exact h2);clear hrd uQ hos fK hraw hg2;have Hsm:=Lib.hid (fun i (h : i < (a5.drop 1).length)=>show ((a5.drop 1)[i]).values.length ≤ 1048576 from by have:=(HP.out.2.2.1.2 _ (List.mem_of_mem_drop (List.getElem_mem h))).n; omega);have wM:=Lib.hid (fun w' (hb : Below Y.heap.size Y w')=>(show Calls Tryz.prog 32 #[.slice (some ⟨g,3,none⟩) (a5.length - 1) (c5 - 1)] w' (fun e wz=>∃ v5,e = .returned v5 ∧ dx wz Y.heap.size 2 69 3 v5 (a5.length - 1) ((a5.drop 1).flatMap Need.row) ∧ Below w'.heap.size w' wz ∧ Below Y.heap.size Y wz) from (mX (a5.drop 1) _ (.slice (some ⟨g,3,none⟩) (a5.length - 1) (c5 - 1)) w' (by rw [show (a5.drop 1).length = a5.length - 1 from List.length_drop ..]; exact rot.yV (qP.out.below hb) (by rw [← rot.uJ Need.au a5 1]; exact rot.uI (rot.sH YF.out Hr.out jA.out.hi (fun k h1 h2 h3=>(hb.block k (Nat.lt_of_lt_of_le h1 jA.out.size)).trans (jA.out.old k h1))) (1 * 3)) (by omega) (by have:=YG.out; omega)) (by rw [List.length_drop]; omega) Hsm.out).mono (fun e wz h=>by obtain ⟨v5,h1,h2,h3⟩:=h; rw [show (a5.drop 1).length = a5.length - 1 from List.length_drop ..] at h2; exact ⟨v5,h1,h2.lower hb.size,h3,ah hb h3 hb.size⟩)));have QM:=Lib.hid (show lW ⟨a0,bn a1 1,a2,a3,a4,bn a5 1,a6⟩ from ⟨HP.out.1,WS.out.2.1,⟨by rw [lN (by omega) (by omega)]; omega,fun y hy=>HP.out.2.2.1.2 y (vw y hy)⟩,HP.out.2.2.2⟩);go_upto_region 6 with fail;go_cut [4] from 29 to 39 (fun s4 wx=>s4 = .pointer (some ⟨b,0,none⟩) ∧ ∃ v6,(tX 28 w w2 b [.string a0,.slice A1 (bn a1 1).length c1,.int .i64 a2,.int .i64 a3,.int .i64 a4,v6,.slice A6 a6.length c6] wx ∧ nJ w.heap.size b wx (.slice A1 (bn a1 1).length c1) (.sl 2 (bn a1 1).length ((bn a1 1).flatMap Label.row))) ∧ nJ w.heap.size b wx v6 (.sl 3 (bn a5 1).length ((bn a5 1).flatMap Need.row)) ∧ ∃ A c,v6 = .slice A (bn a5 1).length c)
    case first=>
      have Hf1:=Lib.hid (NS.out);have KS : ∀ Z9 : World,Below Y.heap.size Y Z9 → Z9.cell? ⟨b,5,none⟩ = some (.slice (some ⟨g,0,none⟩) a5.length c5) ∧ Z9.cell? ⟨g,0,none⟩ = some u0 ∧ Z9.cell? ⟨g,1,none⟩ = some u1 ∧ Z9.cell? ⟨g,2,none⟩ = some u2:=fun Z9 hb=>⟨(World.cell?_of_block (hb.block b WQ.out)).trans pf,(World.cell?_of_block (hb.block g hgl)).trans WM,(World.cell?_of_block (hb.block g hgl)).trans WO,(World.cell?_of_block (hb.block g hgl)).trans YE⟩;refine wp_region_noPanic ?_;refine nU 11 (by kernel_rfl) (fun w'=>w'.cell? ⟨b,5,none⟩ = some (.slice (some ⟨g,0,none⟩) a5.length c5) ∧ w'.cell? ⟨g,0,none⟩ = some u0 ∧ w'.cell? ⟨g,1,none⟩ = some u1 ∧ w'.cell? ⟨g,2,none⟩ = some u2) ?_;refine bE (i:=0) (v:=?_) rfl (by kernel_rfl) (fun _ _ _ h=>h) (Or.inl ⟨by rfl,?_⟩) (KS _ (Below.refl _ _).drew) ?_;rotate_left
      · intro w' hSw;obtain ⟨hw0,hw1,hw2,hw3⟩:=hSw;go_simp
        try with_reducible rfl
      try simp only [Act.put,List.setIfInBounds_toArray,List.set_cons_zero,List.set_cons_succ,List.getElem_toArray,List.getElem_cons_zero,List.getElem_cons_succ]
      refine bE (i:=1) (v:=?_) rfl (by kernel_rfl) (fun _ _ _ h=>h) (Or.inl ⟨by rfl,?_⟩) (KS _ (Below.refl _ _).drew) ?_;rotate_left
      · intro w' hSw;obtain ⟨hw0,hw1,hw2,hw3⟩:=hSw;go_simp
        try with_reducible rfl
      try simp only [Act.put,List.setIfInBounds_toArray,List.set_cons_zero,List.set_cons_succ,List.getElem_toArray,List.getElem_cons_zero,List.getElem_cons_succ]
      refine bE (i:=2) (v:=?_) rfl (by kernel_rfl) (fun _ _ _ h=>h) (Or.inl ⟨by rfl,?_⟩) (KS _ (Below.refl _ _).drew) ?_;rotate_left
      · intro w' hSw;obtain ⟨hw0,hw1,hw2,hw3⟩:=hSw;go_simp
        try with_reducible rfl
      try simp only [Act.put,List.setIfInBounds_toArray,List.set_cons_zero,List.set_cons_succ,List.getElem_toArray,List.getElem_cons_zero,List.getElem_cons_succ]
      refine bE (i:=4) (v:=?_) rfl (by kernel_rfl) (fun _ _ _ h=>h) (Or.inl ⟨by rfl,?_⟩) (KS _ (Below.refl _ _).drew) ?_;rotate_left
      · intro w' hSw;obtain ⟨hw0,hw1,hw2,hw3⟩:=hSw;go_simp
        try with_reducible rfl
      try simp only [Act.put,List.setIfInBounds_toArray,List.set_cons_zero,List.set_cons_succ,List.getElem_toArray,List.getElem_cons_zero,List.getElem_cons_succ]
      refine bE (i:=5) (v:=?_) rfl (by kernel_rfl) (fun _ _ _ h=>h) (Or.inl ⟨by rfl,?_⟩) (KS _ (Below.refl _ _).drew) ?_;rotate_left
      · intro w' hSw;obtain ⟨hw0,hw1,hw2,hw3⟩:=hSw;go_simp
        try with_reducible rfl
      try simp only [Act.put,List.setIfInBounds_toArray,List.set_cons_zero,List.set_cons_succ,List.getElem_toArray,List.getElem_cons_zero,List.getElem_cons_succ]
      refine bE (i:=6) (v:=?_) rfl (by kernel_rfl) (fun _ _ _ h=>h) (Or.inl ⟨by rfl,?_⟩) (KS _ (Below.refl _ _).drew) ?_;rotate_left
      · intro w' hSw;obtain ⟨hw0,hw1,hw2,hw3⟩:=hSw;go_simp
        try with_reducible rfl
      try simp only [Act.put,List.setIfInBounds_toArray,List.set_cons_zero,List.set_cons_succ,List.getElem_toArray,List.getElem_cons_zero,List.getElem_cons_succ]
      refine bE (i:=7) (v:=?_) rfl (by kernel_rfl) (fun _ _ _ h=>h) (Or.inl ⟨by rfl,?_⟩) (KS _ (Below.refl _ _).drew) ?_;rotate_left
      · intro w' hSw;obtain ⟨hw0,hw1,hw2,hw3⟩:=hSw;go_simp
        try with_reducible rfl
      try simp only [Act.put,List.setIfInBounds_toArray,List.set_cons_zero,List.set_cons_succ,List.getElem_toArray,List.getElem_cons_zero,List.getElem_cons_succ]
      refine bQ (rs:=[3,8]) (by kernel_rfl) (by simp) ?_;refine bB.cons rfl (by decide) (fun K hK=>?_) ?_
      · go_simp;go_at_call 32;refine (wM.out _ (by first | exact flt.jQ _ _ | exact (Below.refl _ _).drew)).mono ?_;rintro e w5 ⟨v5,rfl,og,NQ,hb5⟩;obtain ⟨xs,F5,hown5,mH,uP,YH,hx5⟩:=og;refine hK.out _ _ (KS _ hb5) ?_;clear hK K
        try simp only [Act.put,List.setIfInBounds_toArray,List.set_cons_zero,List.set_cons_succ,List.getElem_toArray,List.getElem_cons_zero,List.getElem_cons_succ]
        refine bQ (rs:=[8]) (by kernel_rfl) (by simp) ?_;refine bB.cons rfl (by decide) (fun K hK=>?_) ?_
        · go_simp;refine hK.out _ _ ?_ ?_
          · first | exact KS _ (flt.jQ _ _) | exact KS _ (hb5.alloc hb5.size _)
          clear hK K
          try simp only [Act.put,List.setIfInBounds_toArray,List.set_cons_zero,List.set_cons_succ,List.getElem_toArray,List.getElem_cons_zero,List.getElem_cons_succ]
          refine bQ (rs:=[9]) (by kernel_rfl) (by simp) ?_;refine bB.cons rfl (by decide) (fun K hK=>?_) ?_
          · refine rot.iH (wd:=X) rfl (.tmp 32) (.tmp 37) 25 rfl 69 i0n _ 3 48 Tryz.underlying25 hin QN QO QS rfl (by decide) (by decide) _ (a5.length - 1) 1 xs [u0,u1,u2] rfl Y.heap.size ?_ ?_ (some ⟨_,0,none⟩) rfl ?_ gJ.out fJ (by decide) ?_
            · first | exact hb5.size | exact (hb5.alloc hb5.size _).size
            · first | exact hown5 | exact own_below' hown5 ((Below.refl _ _).alloc (Nat.le_refl _) _)
            · first | exact jy | exact rot.fD (k:=3) (m:=1) _ _ _ rfl
            intro v6 w6 hown6 kg
            have hb6 : Below Y.heap.size Y w6:=by
              first | exact hb5.grown kg hb5.size (fun q hq=>(hown5.lt q hq).1) | exact (hb5.alloc hb5.size _).grown kg (hb5.alloc hb5.size _).size (fun q hq=>(hown5.lt q hq).1)
            have hxs : bq w6 Y.heap.size 2 xs ((a5.drop 1).flatMap Need.row) F5:=by
              first | exact bq.kept (fun q hq=>kg.block q (uP.range q hq).2 (fun e=>hx5 q hq e.symm)) uP | exact bq.kept (fun q hq=>(kg.block q (Nat.lt_of_lt_of_le (uP.range q hq).2 (by simp)) (fun e=>hx5 q hq e.symm)).trans (Below.heap_alloc _ _ q (uP.range q hq).2)) uP
            obtain ⟨r1,r2,r3⟩:=FW.out w6 v6 xs F5 hxs hown6 hb6;obtain ⟨Az,cz,rfl⟩:=r3;have rl:=(Hf1.out.below hb6).set (j:=5) (u:=.slice Az (bn a5 1).length cz);have e6:=(KS _ hb6).1;have f6:=aC.frozen ((jA.out.call hb6).box) 5;refine hK.out _ _ (KS _ hb6) ?_;clear hK K
            try simp only [Act.put,List.setIfInBounds_toArray,List.set_cons_zero,List.set_cons_succ,List.getElem_toArray,List.getElem_cons_zero,List.getElem_cons_succ]
            refine bE (i:=10) (v:=?_) rfl (by kernel_rfl) (fun _ _ _ h=>h) (Or.inl ⟨by rfl,?_⟩) (KS _ hb6) ?_;rotate_left
            · intro w' hSw;obtain ⟨hw0,hw1,hw2,hw3⟩:=hSw;go_simp
              try with_reducible rfl
            try simp only [Act.put,List.setIfInBounds_toArray,List.set_cons_zero,List.set_cons_succ,List.getElem_toArray,List.getElem_cons_zero,List.getElem_cons_succ]
            refine jL (by kernel_rfl) (by kernel_rfl) rfl (fun K hK=>?_);go_simp;refine hK.out _ _ ?_;refine NoPanic.normal ?_;go_wp2_with fail;go_meet;exact ⟨rfl,_,⟨r1,rl⟩,r2,⟨_,_,rfl⟩⟩
          exact bB.nil
        exact bB.nil
      refine bB.cons rfl (by decide) (fun K hK=>?_) ?_
      · go_simp;refine hK.out _ _ ?_ ?_
        · first | exact KS _ (flt.jQ _ _) | exact KS _ (hb5.alloc hb5.size _)
        clear hK K
        try simp only [Act.put,List.setIfInBounds_toArray,List.set_cons_zero,List.set_cons_succ,List.getElem_toArray,List.getElem_cons_zero,List.getElem_cons_succ]
        refine bQ (rs:=[3]) (by kernel_rfl) (by simp) ?_;refine bB.cons rfl (by decide) (fun K hK=>?_) ?_
        · go_simp;go_at_call 32;refine (wM.out _ (by first | exact flt.jQ _ _ | exact (Below.refl _ _).drew)).mono ?_;rintro e w5 ⟨v5,rfl,og,NQ,hb5⟩;have jy : jI w5 (some ⟨Y.heap.size,0,none⟩) 1 3 [u0,u1,u2]:=rot.oM rfl (eX NQ (by show _ < (Y.alloc _).heap.size; simp) (heap_alloc_new Y _));obtain ⟨xs,F5,hown5,mH,uP,YH,hx5⟩:=og;refine hK.out _ _ (KS _ hb5) ?_;clear hK K
          try simp only [Act.put,List.setIfInBounds_toArray,List.set_cons_zero,List.set_cons_succ,List.getElem_toArray,List.getElem_cons_zero,List.getElem_cons_succ]
          refine bQ (rs:=[9]) (by kernel_rfl) (by simp) ?_;refine bB.cons rfl (by decide) (fun K hK=>?_) ?_
          · refine rot.iH (wd:=X) rfl (.tmp 32) (.tmp 37) 25 rfl 69 i0n _ 3 48 Tryz.underlying25 hin QN QO QS rfl (by decide) (by decide) _ (a5.length - 1) 1 xs [u0,u1,u2] rfl Y.heap.size ?_ ?_ (some ⟨_,0,none⟩) rfl ?_ gJ.out fJ (by decide) ?_
            · first | exact hb5.size | exact (hb5.alloc hb5.size _).size
            · first | exact hown5 | exact own_below' hown5 ((Below.refl _ _).alloc (Nat.le_refl _) _)
            · first | exact jy | exact rot.fD (k:=3) (m:=1) _ _ _ rfl
            intro v6 w6 hown6 kg
            have hb6 : Below Y.heap.size Y w6:=by
              first | exact hb5.grown kg hb5.size (fun q hq=>(hown5.lt q hq).1) | exact (hb5.alloc hb5.size _).grown kg (hb5.alloc hb5.size _).size (fun q hq=>(hown5.lt q hq).1)
            have hxs : bq w6 Y.heap.size 2 xs ((a5.drop 1).flatMap Need.row) F5:=by
              first | exact bq.kept (fun q hq=>kg.block q (uP.range q hq).2 (fun e=>hx5 q hq e.symm)) uP | exact bq.kept (fun q hq=>(kg.block q (Nat.lt_of_lt_of_le (uP.range q hq).2 (by simp)) (fun e=>hx5 q hq e.symm)).trans (Below.heap_alloc _ _ q (uP.range q hq).2)) uP
            obtain ⟨r1,r2,r3⟩:=FW.out w6 v6 xs F5 hxs hown6 hb6;obtain ⟨Az,cz,rfl⟩:=r3;have rl:=(Hf1.out.below hb6).set (j:=5) (u:=.slice Az (bn a5 1).length cz);have e6:=(KS _ hb6).1;have f6:=aC.frozen ((jA.out.call hb6).box) 5;refine hK.out _ _ (KS _ hb6) ?_;clear hK K
            try simp only [Act.put,List.setIfInBounds_toArray,List.set_cons_zero,List.set_cons_succ,List.getElem_toArray,List.getElem_cons_zero,List.getElem_cons_succ]
            refine bE (i:=10) (v:=?_) rfl (by kernel_rfl) (fun _ _ _ h=>h) (Or.inl ⟨by rfl,?_⟩) (KS _ hb6) ?_;rotate_left
            · intro w' hSw;obtain ⟨hw0,hw1,hw2,hw3⟩:=hSw;go_simp
              try with_reducible rfl
            try simp only [Act.put,List.setIfInBounds_toArray,List.set_cons_zero,List.set_cons_succ,List.getElem_toArray,List.getElem_cons_zero,List.getElem_cons_succ]
            refine jL (by kernel_rfl) (by kernel_rfl) rfl (fun K hK=>?_);go_simp;refine hK.out _ _ ?_;refine NoPanic.normal ?_;go_wp2_with fail;go_meet;exact ⟨rfl,_,⟨r1,rl⟩,r2,⟨_,_,rfl⟩⟩
          exact bB.nil
        exact bB.nil
      exact bB.nil
    case rest=>
      obtain ⟨rfl,v6,⟨FZ,hf1⟩,FY,Az,cz,rfl⟩:=hcut;have vQ:=Lib.hid FZ;clear FZ FW qP iG gJ NN wM Hsm;obtain ⟨g1,k1⟩:=(hf1).res #[.string a0,.slice A1 (bn a1 1).length c1,.int .i64 a2,.int .i64 a3,.int .i64 a4,.slice Az (bn a5 1).length cz,.slice A6 a6.length c6];obtain ⟨g5,k5⟩:=(FY).res #[.string a0,.slice A1 (bn a1 1).length c1,.int .i64 a2,.int .i64 a3,.int .i64 a4,.slice Az (bn a5 1).length cz,.slice A6 a6.length c6];obtain ⟨g6,k6⟩:=(vQ.out.yY O6.out Hr.out).res #[.string a0,.slice A1 (bn a1 1).length c1,.int .i64 a2,.int .i64 a3,.int .i64 a4,.slice Az (bn a5 1).length cz,.slice A6 a6.length c6];have dJ:=vQ.out.box;have bJ:=vQ.out.row Hz.out;unfold aC at bJ dJ
      have FV : aH (wc.setRow w.heap.size #[.string a0,.slice A1 (bn a1 1).length c1,.int .i64 a2,.int .i64 a3,.int .i64 a4,.slice Az (bn a5 1).length cz,.slice A6 a6.length c6]) (g1 + g5 + g6 + 1) [.string a0,.slice A1 (bn a1 1).length c1,.int .i64 a2,.int .i64 a3,.int .i64 a4,.slice Az (bn a5 1).length cz,.slice A6 a6.length c6] (Pod.row ⟨a0,bn a1 1,a2,a3,a4,bn a5 1,a6⟩):=by
        unfold Pod.row;exact aH.cons (show bf _ (g1 + g5 + g6 + 1) _ _ from ⟨rfl,eU.out.1⟩) (aH.cons (bf.deeper (by omega) k1) (aH.cons (show bf _ (g1 + g5 + g6 + 1) _ _ from ⟨rfl,eU.out.2.1⟩) (aH.cons (show bf _ (g1 + g5 + g6 + 1) _ _ from ⟨rfl,eU.out.2.2.1⟩) (aH.cons (show bf _ (g1 + g5 + g6 + 1) _ _ from ⟨rfl,eU.out.2.2.2⟩) (aH.cons (bf.deeper (by omega) k5) (aH.cons (bf.deeper (by omega) k6) (aH.nil)))))))
      have HR : Hid (rG Pod.row lW w (.returned (.agg #[.string a0,.slice A1 (bn a1 1).length c1,.int .i64 a2,.int .i64 a3,.int .i64 a4,.slice Az (bn a5 1).length cz,.slice A6 a6.length c6])) (wc.setRow w.heap.size #[.string a0,.slice A1 (bn a1 1).length c1,.int .i64 a2,.int .i64 a3,.int .i64 a4,.slice Az (bn a5 1).length cz,.slice A6 a6.length c6])):=⟨⟨a0,bn a1 1,a2,a3,a4,bn a5 1,a6⟩,_,g1 + g5 + g6 + 1,QM.out,rfl,FV,ay vQ.out.gK (Nat.le_refl _) _⟩;clear FV k1 k5 k6;go_wp2_with (first | (refine wpList_load_row rfl 28 _ rfl b rfl 28 #[.string a0,.slice A1 (bn a1 1).length c1,.int .i64 a2,.int .i64 a3,.int .i64 a4,.slice Az (bn a5 1).length cz,.slice A6 a6.length c6] (0,0) _ dJ Tryz.underlying28 rfl aS ?_) | (refine wpList_store_row rfl 28 _ _ rfl w.heap.size #[.string a0,.slice A1 (bn a1 1).length c1,.int .i64 a2,.int .i64 a3,.int .i64 a4,.slice Az (bn a5 1).length cz,.slice A6 a6.length c6] rfl rfl 28 _ bJ aS rfl (by simp [Value.oneCell']) ?_) | fail);refine bodyPost_ret (v:=.agg #[.string a0,.slice A1 (bn a1 1).length c1,.int .i64 a2,.int .i64 a3,.int .i64 a4,.slice Az (bn a5 1).length cz,.slice A6 a6.length c6]) ?_ rfl HR.out;exact results_cell_row rfl _ _ w.heap.size _ _ (0,0) _ rfl (aI bJ) Tryz.underlying28 rfl aS
end Go.Proofs.YtcfbkfmkjggcdaaGreatDoor.draw
