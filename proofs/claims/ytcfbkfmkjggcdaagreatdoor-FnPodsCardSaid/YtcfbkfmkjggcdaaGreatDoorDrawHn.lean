/- spec.DrawHostNormal: to read. Printed by gen/gen_rot.py. -/
import Derived.Test.YtcfbkfmkjggcdaaGreatDoorDrawC
import Derived.Test.YtcfbkfmkjggcdaaGreatDoorGA2
import Derived.Test.YtcfbkfmkjggcdaaGreatDoorGA5
import Derived.Test.YtcfbkfmkjggcdaaGreatDoorDrawHa
import Derived.Test.YtcfbkfmkjggcdaaGreatDoorGA9
import Derived.Test.YtcfbkfmkjggcdaaGreatDoorGA10
import Derived.Test.YtcfbkfmkjggcdaaGreatDoorGA7
import Derived.Deep.RegionHeld3
import Derived.Deep.Cut
import Derived.Deep.CutRange
import Derived.Deep.RegionLaw
import Derived.Deep.WholeRow
namespace Go.Proofs.YtcfbkfmkjggcdaaGreatDoor.draw
open Go.ChangeShapes Go.WideShapes Go.ChangeAt Go.RowKit ty lab taint rot
set_option linter.unusedVariables false
set_option linter.unusedSimpArgs false
set_option maxRecDepth 1000000 in
set_option maxHeartbeats 64000000 in
theorem zQ (A : Option Addr) (len cap : Nat) (zs : List Int) (w : World) (hr : qo .u8 w A len cap zs) (hlen : len ≤ 1048576) :
    Calls Tryz.prog 8 #[.slice A len cap] w fun e w'=>rG Host.row Cv w e w':=by
  obtain ⟨i0,hi,hz0,hz1,hz2⟩:=info_parts TryzinfITaint;obtain ⟨W,hW⟩ : ∃ W,W = w.alloc (.cells #[.string ⟨#[]⟩,.slice none 0 0,.int .i64 0,.int .i64 0,.int .i64 0,.slice none 0 0] 32):=⟨_,rfl⟩;have hbW : Below w.heap.size w W:=(by rw [hW]; exact (Below.refl _ _).alloc (Nat.le_refl _) _);have WK : aC 32 W w.heap.size [.string ⟨#[]⟩,.slice none 0 0,.int .i64 0,.int .i64 0,.int .i64 0,.slice none 0 0]:=(by rw [hW]; exact aC.new _ _ _);have HN:=Lib.hid (Jg A len cap zs W (hr.below hbW) hlen);have HW:=Lib.hid hW;have QL:=Lib.hid hbW;have YD:=Lib.hid WK;have hWs:=aX WK;clear hr hW hbW WK;go_enter Tryz.func8,Tryz.ntmps8;go_wp2_with fail;rw [← HW.out];refine HN.out.mono ?_;clear HN HW;rintro e w1 ⟨c,rfl,hcW,hc,hb1⟩;generalize (fun j=>zs.getD j 0) = z at hc;have HA:=Lib.hid (FP c A len cap z w1 hc);have Hb1:=Lib.hid hb1;clear hc hb1;go_wp2_with fail;refine HA.out.mono ?_;clear HA;rintro e w2 ⟨x0,us,f0,F0,hx,rfl,ho,hnd,hc2,hg2⟩;obtain ⟨a0,a1,a2,a3,a4,a5⟩:=x0;obtain ⟨A1,c1,F1,A5,c5,F5,rfl,hwf,o1,o5,mE⟩:=Host.parts ho hnd;simp only at hwf o1 o5;have hb2 : Below w.heap.size w w2:=(ah QL.out Hb1.out QL.out.size).grown hg2 (Nat.le_trans QL.out.size Hb1.out.size) (fun q hq=>by injection hq with hq; omega);have hz2 : aC 32 w2 w.heap.size [.string ⟨#[]⟩,.slice none 0 0,.int .i64 0,.int .i64 0,.int .i64 0,.slice none 0 0]:=(hg2.block w.heap.size (Nat.lt_of_lt_of_le hWs Hb1.out.size) (fun e=>by injection e with e; omega)).trans (YD.out.below Hb1.out);have Hr:=Lib.hid (show w.heap.size < w1.heap.size from Nat.lt_of_lt_of_le hWs Hb1.out.size);obtain ⟨b,hb⟩ : ∃ b,b = w2.heap.size:=⟨_,rfl⟩;obtain ⟨X,hX⟩ : ∃ X,X = w2.alloc (.cells #[.string a0,.slice A1 a1.length c1,.int .i64 a2,.int .i64 a3,.int .i64 a4,.slice A5 a5.length c5] 32):=⟨_,rfl⟩;have hbX : Below w2.heap.size w2 X:=(by rw [hX]; exact (Below.refl _ _).alloc (Nat.le_refl _) _);have haft : tX 32 w w2 b [.string a0,.slice A1 a1.length c1,.int .i64 a2,.int .i64 a3,.int .i64 a4,.slice A5 a5.length c5] X:=⟨ah hb2 hbX hb2.size,fun k hk=>hbX.block k hk,by rw [hX,hb]; exact aC.new _ _ _,by omega,hb2.size⟩;have fV:=Lib.hid haft;have Hz:=Lib.hid hz2;have HX:=Lib.hid hX;have Hb:=Lib.hid hb;have eU:=Lib.hid hwf;have HP:=Lib.hid hx;have HbX:=Lib.hid hbX;have O1:=Lib.hid o1.own;have O5:=Lib.hid o5.own;clear ho hnd hc2 hg2 hb2 hz2 hb hX hbX haft hwf hx o1 o5 mE Hb1 QL YD hcW hWs;go_upto_region 3 with fail;rw [← HX.out,← Hb.out];clear HX Hb HbX;have p5:=fV.out.box.cell 5 _ rfl;have WL : a5.length ≤ 41:=HP.out.2.2.1;by_cases hn : 1 < a5.length
  case neg=>
    have hni : ¬ (1 : Int) < (a5.length : Int):=(by omega);obtain ⟨g1,k1⟩:=(fV.out.yY O1.out Hr.out).res #[.string a0,.slice A1 a1.length c1,.int .i64 a2,.int .i64 a3,.int .i64 a4,.slice A5 a5.length c5];obtain ⟨g5,k5⟩:=(fV.out.yY O5.out Hr.out).res #[.string a0,.slice A1 a1.length c1,.int .i64 a2,.int .i64 a3,.int .i64 a4,.slice A5 a5.length c5];have dJ:=fV.out.box;have bJ:=fV.out.row Hz.out;unfold aC at bJ dJ
    have FV : aH (X.setRow w.heap.size #[.string a0,.slice A1 a1.length c1,.int .i64 a2,.int .i64 a3,.int .i64 a4,.slice A5 a5.length c5]) (g1 + g5 + 1) [.string a0,.slice A1 a1.length c1,.int .i64 a2,.int .i64 a3,.int .i64 a4,.slice A5 a5.length c5] (Host.row ⟨a0,a1,a2,a3,a4,a5⟩):=by
      unfold Host.row;exact aH.cons (show bf _ (g1 + g5 + 1) _ _ from ⟨rfl,eU.out.1⟩) (aH.cons (bf.deeper (by omega) k1) (aH.cons (show bf _ (g1 + g5 + 1) _ _ from ⟨rfl,eU.out.2.1⟩) (aH.cons (show bf _ (g1 + g5 + 1) _ _ from ⟨rfl,eU.out.2.2.1⟩) (aH.cons (show bf _ (g1 + g5 + 1) _ _ from ⟨rfl,eU.out.2.2.2⟩) (aH.cons (bf.deeper (by omega) k5) (aH.nil))))))
    have HR : Hid (rG Host.row Cv w (.returned (.agg #[.string a0,.slice A1 a1.length c1,.int .i64 a2,.int .i64 a3,.int .i64 a4,.slice A5 a5.length c5])) (X.setRow w.heap.size #[.string a0,.slice A1 a1.length c1,.int .i64 a2,.int .i64 a3,.int .i64 a4,.slice A5 a5.length c5])):=⟨⟨a0,a1,a2,a3,a4,a5⟩,_,g1 + g5 + 1,NM HP.out,rfl,FV,ay fV.out.gK (Nat.le_refl _) _⟩;clear FV k1 k5;go_wp2_with (first | (refine wpList_load_row rfl 32 _ rfl b rfl 32 #[.string a0,.slice A1 a1.length c1,.int .i64 a2,.int .i64 a3,.int .i64 a4,.slice A5 a5.length c5] (0,0) _ dJ Tryz.underlying32 rfl aV ?_) | (refine wpList_store_row rfl 32 _ _ rfl w.heap.size #[.string a0,.slice A1 a1.length c1,.int .i64 a2,.int .i64 a3,.int .i64 a4,.slice A5 a5.length c5] rfl rfl 32 _ bJ aV rfl (by simp [Value.oneCell']) ?_) | fail);refine bodyPost_ret (v:=.agg #[.string a0,.slice A1 a1.length c1,.int .i64 a2,.int .i64 a3,.int .i64 a4,.slice A5 a5.length c5]) ?_ rfl HR.out;exact results_cell_row rfl _ _ w.heap.size _ _ (0,0) _ rfl (aI bJ) Tryz.underlying32 rfl aV
  obtain ⟨g,hA,hcap,hg2⟩:=rot.vB O5.out (by omega);subst hA;obtain ⟨raw,F9,uQ,hos⟩:=rot.yJ O5.out;obtain ⟨u0,u1,u2,u3,u4,u5,rest,hraw⟩:=rot.PZ (xs:=raw) (by rw [uQ.1]; omega);have hgl : g < X.heap.size:=Nat.lt_of_lt_of_le hg2 fV.out.size;have hrd:=vv uQ fV.out.size fV.out.old;have WM : X.cell? ⟨g,0,none⟩ = some u0:=rot.gB hrd (by omega) (by rw [hraw]; rfl);have WO : X.cell? ⟨g,1,none⟩ = some u1:=rot.gB hrd (by omega) (by rw [hraw]; rfl);have YE : X.cell? ⟨g,2,none⟩ = some u2:=rot.gB hrd (by omega) (by rw [hraw]; rfl);have ce3 : X.cell? ⟨g,3,none⟩ = some u3:=rot.gB hrd (by omega) (by rw [hraw]; rfl);have ce4 : X.cell? ⟨g,4,none⟩ = some u4:=rot.gB hrd (by omega) (by rw [hraw]; rfl);have ce5 : X.cell? ⟨g,5,none⟩ = some u5:=rot.gB hrd (by omega) (by rw [hraw]; rfl);have qP:=Lib.hid (rot.vk hrd (by omega));have fK:=rot.fF hos.lies;have iG:=Lib.hid (show ∀ u ∈ raw.drop 3,u.oneCell' = true from fun u hu=>fK u (List.mem_of_mem_drop hu));have gJ:=Lib.hid (show ∀ u ∈ [u0,u1,u2,u3,u4,u5],u.oneCell' = true from fun u hu=>fK u (by rw [hraw]; simp at hu ⊢; rcases hu with rfl | rfl | rfl | rfl | rfl | rfl <;> simp));have NN:=Lib.hid (show raw.take (2 * 3) = [u0,u1,u2,u3,u4,u5] by rw [hraw]; rfl);have WQ:=Lib.hid fV.out.lt;have pf:=fV.out.box.cell 5 _ rfl;have fJ : a5.length - 1 ≤ 64:=(by have:=WL; omega);have hN0 : 0 < a5.length:=(by omega);have hn1 : (1 : Int) ≤ (a5.length : Int):=(by omega);have hn0 : (0 : Int) < (a5.length : Int):=(by omega);have hn2 : (1 : Int) < (a5.length : Int):=(by omega);have hc1 : ¬ c5 = 1:=(by omega);have FW:=Lib.hid (fun w6 v6 (h1 : w6.ownsRow X.heap.size 72 3 v6 (a5.length - 1 + 2) (raw.drop 3 ++ [u0,u1,u2,u3,u4,u5])) (h2 : Below X.heap.size X w6)=>rot.tX.turned (m:=2) av.au fV.out 5 hos Hr.out (by omega) (by omega) (by rw [NN.out]; exact h1) h2);have YF:=Lib.hid hos;have YG:=Lib.hid (show c5 ≤ maxLen from let ⟨_,_,e,_,h2,_⟩:=O5.out.lies.sl; by injection e with _ _ e3; rw [e3]; exact h2);clear hrd uQ hos fK hraw hg2;have QM:=Lib.hid (show Cv ⟨a0,a1,a2,a3,a4,bn a5 2⟩ from ⟨HP.out.1,HP.out.2.1,by rw [lN (by omega) (by omega)]; omega,fun y hy=>HP.out.2.2.2 y (vw y hy)⟩);go_upto_region 4 with fail;go_cut [4] from 13 to 28 (fun s4 wx=>s4 = .pointer (some ⟨b,0,none⟩) ∧ ∃ v6,tX 32 w w2 b [.string a0,.slice A1 a1.length c1,.int .i64 a2,.int .i64 a3,.int .i64 a4,v6] wx ∧ nJ w.heap.size b wx v6 (.sl 3 (bn a5 2).length ((bn a5 2).flatMap av.row)) ∧ ∃ A c,v6 = .slice A (bn a5 2).length c)
  case first=>
    have KS : ∀ Z9 : World,Below X.heap.size X Z9 → Z9.cell? ⟨b,5,none⟩ = some (.slice (some ⟨g,0,none⟩) a5.length c5) ∧ Z9.cell? ⟨g,0,none⟩ = some u0 ∧ Z9.cell? ⟨g,1,none⟩ = some u1 ∧ Z9.cell? ⟨g,2,none⟩ = some u2 ∧ Z9.cell? ⟨g,3,none⟩ = some u3 ∧ Z9.cell? ⟨g,4,none⟩ = some u4 ∧ Z9.cell? ⟨g,5,none⟩ = some u5:=fun Z9 hb=>⟨(World.cell?_of_block (hb.block b WQ.out)).trans pf,(World.cell?_of_block (hb.block g hgl)).trans WM,(World.cell?_of_block (hb.block g hgl)).trans WO,(World.cell?_of_block (hb.block g hgl)).trans YE,(World.cell?_of_block (hb.block g hgl)).trans ce3,(World.cell?_of_block (hb.block g hgl)).trans ce4,(World.cell?_of_block (hb.block g hgl)).trans ce5⟩;refine wp_region_noPanic ?_;refine nU 16 (by kernel_rfl) (fun w'=>w'.cell? ⟨b,5,none⟩ = some (.slice (some ⟨g,0,none⟩) a5.length c5) ∧ w'.cell? ⟨g,0,none⟩ = some u0 ∧ w'.cell? ⟨g,1,none⟩ = some u1 ∧ w'.cell? ⟨g,2,none⟩ = some u2 ∧ w'.cell? ⟨g,3,none⟩ = some u3 ∧ w'.cell? ⟨g,4,none⟩ = some u4 ∧ w'.cell? ⟨g,5,none⟩ = some u5) ?_;refine bE (i:=1) (v:=?_) rfl (by kernel_rfl) (fun _ _ _ h=>h) (Or.inl ⟨by rfl,?_⟩) (KS _ (Below.refl _ _).drew) ?_;rotate_left
    · intro w' hSw;obtain ⟨hw0,hw1,hw2,hw3,hw4,Ew,Ev⟩:=hSw;go_simp
      try with_reducible rfl
    try simp only [Act.put,List.setIfInBounds_toArray,List.set_cons_zero,List.set_cons_succ,List.getElem_toArray,List.getElem_cons_zero,List.getElem_cons_succ]
    refine bE (i:=2) (v:=?_) rfl (by kernel_rfl) (fun _ _ _ h=>h) (Or.inl ⟨by rfl,?_⟩) (KS _ (Below.refl _ _).drew) ?_;rotate_left
    · intro w' hSw;obtain ⟨hw0,hw1,hw2,hw3,hw4,Ew,Ev⟩:=hSw;go_simp
      try with_reducible rfl
    try simp only [Act.put,List.setIfInBounds_toArray,List.set_cons_zero,List.set_cons_succ,List.getElem_toArray,List.getElem_cons_zero,List.getElem_cons_succ]
    refine bE (i:=3) (v:=?_) rfl (by kernel_rfl) (fun _ _ _ h=>h) (Or.inl ⟨by rfl,?_⟩) (KS _ (Below.refl _ _).drew) ?_;rotate_left
    · intro w' hSw;obtain ⟨hw0,hw1,hw2,hw3,hw4,Ew,Ev⟩:=hSw;go_simp
      try with_reducible rfl
    try simp only [Act.put,List.setIfInBounds_toArray,List.set_cons_zero,List.set_cons_succ,List.getElem_toArray,List.getElem_cons_zero,List.getElem_cons_succ]
    refine bE (i:=5) (v:=?_) rfl (by kernel_rfl) (fun _ _ _ h=>h) (Or.inl ⟨by rfl,?_⟩) (KS _ (Below.refl _ _).drew) ?_;rotate_left
    · intro w' hSw;obtain ⟨hw0,hw1,hw2,hw3,hw4,Ew,Ev⟩:=hSw;go_simp
      try with_reducible rfl
    try simp only [Act.put,List.setIfInBounds_toArray,List.set_cons_zero,List.set_cons_succ,List.getElem_toArray,List.getElem_cons_zero,List.getElem_cons_succ]
    refine bE (i:=6) (v:=?_) rfl (by kernel_rfl) (fun _ _ _ h=>h) (Or.inl ⟨by rfl,?_⟩) (KS _ (Below.refl _ _).drew) ?_;rotate_left
    · intro w' hSw;obtain ⟨hw0,hw1,hw2,hw3,hw4,Ew,Ev⟩:=hSw;go_simp
      try with_reducible rfl
    try simp only [Act.put,List.setIfInBounds_toArray,List.set_cons_zero,List.set_cons_succ,List.getElem_toArray,List.getElem_cons_zero,List.getElem_cons_succ]
    refine bE (i:=7) (v:=?_) rfl (by kernel_rfl) (fun _ _ _ h=>h) (Or.inl ⟨by rfl,?_⟩) (KS _ (Below.refl _ _).drew) ?_;rotate_left
    · intro w' hSw;obtain ⟨hw0,hw1,hw2,hw3,hw4,Ew,Ev⟩:=hSw;go_simp
      try with_reducible rfl
    try simp only [Act.put,List.setIfInBounds_toArray,List.set_cons_zero,List.set_cons_succ,List.getElem_toArray,List.getElem_cons_zero,List.getElem_cons_succ]
    refine bE (i:=8) (v:=?_) rfl (by kernel_rfl) (fun _ _ _ h=>h) (Or.inl ⟨by rfl,?_⟩) (KS _ (Below.refl _ _).drew) ?_;rotate_left
    · intro w' hSw;obtain ⟨hw0,hw1,hw2,hw3,hw4,Ew,Ev⟩:=hSw;go_simp
      try with_reducible rfl
    try simp only [Act.put,List.setIfInBounds_toArray,List.set_cons_zero,List.set_cons_succ,List.getElem_toArray,List.getElem_cons_zero,List.getElem_cons_succ]
    refine bE (i:=9) (v:=?_) rfl (by kernel_rfl) (fun _ _ _ h=>h) (Or.inl ⟨by rfl,?_⟩) (KS _ (Below.refl _ _).drew) ?_;rotate_left
    · intro w' hSw;obtain ⟨hw0,hw1,hw2,hw3,hw4,Ew,Ev⟩:=hSw;go_simp
      try with_reducible rfl
    try simp only [Act.put,List.setIfInBounds_toArray,List.set_cons_zero,List.set_cons_succ,List.getElem_toArray,List.getElem_cons_zero,List.getElem_cons_succ]
    refine bE (i:=10) (v:=?_) rfl (by kernel_rfl) (fun _ _ _ h=>h) (Or.inl ⟨by rfl,?_⟩) (KS _ (Below.refl _ _).drew) ?_;rotate_left
    · intro w' hSw;obtain ⟨hw0,hw1,hw2,hw3,hw4,Ew,Ev⟩:=hSw;go_simp
      try with_reducible rfl
    try simp only [Act.put,List.setIfInBounds_toArray,List.set_cons_zero,List.set_cons_succ,List.getElem_toArray,List.getElem_cons_zero,List.getElem_cons_succ]
    refine bE (i:=11) (v:=?_) rfl (by kernel_rfl) (fun _ _ _ h=>h) (Or.inl ⟨by rfl,?_⟩) (KS _ (Below.refl _ _).drew) ?_;rotate_left
    · intro w' hSw;obtain ⟨hw0,hw1,hw2,hw3,hw4,Ew,Ev⟩:=hSw;go_simp
      try with_reducible rfl
    try simp only [Act.put,List.setIfInBounds_toArray,List.set_cons_zero,List.set_cons_succ,List.getElem_toArray,List.getElem_cons_zero,List.getElem_cons_succ]
    refine bE (i:=12) (v:=?_) rfl (by kernel_rfl) (fun _ _ _ h=>h) (Or.inl ⟨by rfl,?_⟩) (KS _ (Below.refl _ _).drew) ?_;rotate_left
    · intro w' hSw;obtain ⟨hw0,hw1,hw2,hw3,hw4,Ew,Ev⟩:=hSw;go_simp
      try with_reducible rfl
    try simp only [Act.put,List.setIfInBounds_toArray,List.set_cons_zero,List.set_cons_succ,List.getElem_toArray,List.getElem_cons_zero,List.getElem_cons_succ]
    refine bQ (rs:=[0,13]) (by kernel_rfl) (by simp) ?_;refine bB.cons rfl (by decide) (fun K hK=>?_) ?_
    · go_simp;refine hK.out _ _ ?_ ?_
      · first | exact KS _ (flt.jQ _ _) | exact KS _ (flt.mQ _ _ _) | exact KS _ (hb5.alloc hb5.size _)
      clear hK K
      try simp only [Act.put,List.setIfInBounds_toArray,List.set_cons_zero,List.set_cons_succ,List.getElem_toArray,List.getElem_cons_zero,List.getElem_cons_succ]
      refine bQ (rs:=[4,13]) (by kernel_rfl) (by simp) ?_;refine bB.cons rfl (by decide) (fun K hK=>?_) ?_
      · refine flt.eY (wd:=X) rfl (.tmp 13) (.tmp 16) 30 rfl 72 i0 _ 3 40 Tryz.underlying30 hi hz0 hz1 hz2 rfl (by decide) (by decide) _ rfl ?_ ?_ (some ⟨g,3,none⟩) (a5.length - 1) (c5 - 1) (raw.drop 3) rfl qP.out iG.out fJ ?_
        · first | exact flt.jQ _ _ | exact flt.mQ _ _ _
        · first | exact flt.wP _ _ _ | exact flt.wQ _ _ _ _ | exact flt.wR _ _ _ _
        intro v5 w5 hown5 hb5 hs5 bN;refine hK.out _ _ (KS _ hb5) ?_;clear hK K
        try simp only [Act.put,List.setIfInBounds_toArray,List.set_cons_zero,List.set_cons_succ,List.getElem_toArray,List.getElem_cons_zero,List.getElem_cons_succ]
        refine bQ (rs:=[13]) (by kernel_rfl) (by simp) ?_;refine bB.cons rfl (by decide) (fun K hK=>?_) ?_
        · go_simp;refine hK.out _ _ ?_ ?_
          · first | exact KS _ (flt.jQ _ _) | exact KS _ (flt.mQ _ _ _) | exact KS _ (hb5.alloc hb5.size _)
          clear hK K
          try simp only [Act.put,List.setIfInBounds_toArray,List.set_cons_zero,List.set_cons_succ,List.getElem_toArray,List.getElem_cons_zero,List.getElem_cons_succ]
          refine bQ (rs:=[14]) (by kernel_rfl) (by simp) ?_;refine bB.cons rfl (by decide) (fun K hK=>?_) ?_
          · refine rot.iH (wd:=X) rfl (.tmp 17) (.tmp 26) 30 rfl 72 i0 _ 3 40 Tryz.underlying30 hi hz0 hz1 hz2 rfl (by decide) (by decide) _ (a5.length - 1) 2 (raw.drop 3) [u0,u1,u2,u3,u4,u5] rfl X.heap.size ?_ ?_ (some ⟨_,0,none⟩) rfl ?_ gJ.out fJ (by decide) ?_
            · first | exact hb5.size | exact (hb5.alloc hb5.size _).size
            · first | exact hown5 | exact own_below' hown5 ((Below.refl _ _).alloc (Nat.le_refl _) _)
            · first | exact jy | exact rot.fD (k:=3) (m:=2) _ _ _ rfl
            intro v6 w6 hown6 kg
            have hb6 : Below X.heap.size X w6:=by
              first | exact hb5.grown kg hb5.size (fun q hq=>(hown5.lt q hq).1) | exact (hb5.alloc hb5.size _).grown kg (hb5.alloc hb5.size _).size (fun q hq=>(hown5.lt q hq).1)
            obtain ⟨r1,r2,r3⟩:=FW.out w6 v6 hown6 hb6;obtain ⟨Az,cz,rfl⟩:=r3;have e6:=(KS _ hb6).1;have f6:=aC.frozen ((fV.out.call hb6).box) 5;refine hK.out _ _ (KS _ hb6) ?_;clear hK K
            try simp only [Act.put,List.setIfInBounds_toArray,List.set_cons_zero,List.set_cons_succ,List.getElem_toArray,List.getElem_cons_zero,List.getElem_cons_succ]
            refine bE (i:=15) (v:=?_) rfl (by kernel_rfl) (fun _ _ _ h=>h) (Or.inl ⟨by rfl,?_⟩) (KS _ hb6) ?_;rotate_left
            · intro w' hSw;obtain ⟨hw0,hw1,hw2,hw3,hw4,Ew,Ev⟩:=hSw;go_simp
              try with_reducible rfl
            try simp only [Act.put,List.setIfInBounds_toArray,List.set_cons_zero,List.set_cons_succ,List.getElem_toArray,List.getElem_cons_zero,List.getElem_cons_succ]
            refine jL (by kernel_rfl) (by kernel_rfl) rfl (fun K hK=>?_);go_simp;refine hK.out _ _ ?_;refine NoPanic.normal ?_;go_wp2_with fail;go_meet;exact ⟨rfl,_,r1,r2,⟨_,_,rfl⟩⟩
          exact bB.nil
        exact bB.nil
      refine bB.cons rfl (by decide) (fun K hK=>?_) ?_
      · go_simp;refine hK.out _ _ ?_ ?_
        · first | exact KS _ (flt.jQ _ _) | exact KS _ (flt.mQ _ _ _) | exact KS _ (hb5.alloc hb5.size _)
        clear hK K
        try simp only [Act.put,List.setIfInBounds_toArray,List.set_cons_zero,List.set_cons_succ,List.getElem_toArray,List.getElem_cons_zero,List.getElem_cons_succ]
        refine bQ (rs:=[4]) (by kernel_rfl) (by simp) ?_;refine bB.cons rfl (by decide) (fun K hK=>?_) ?_
        · refine flt.eY (wd:=X) rfl (.tmp 13) (.tmp 16) 30 rfl 72 i0 _ 3 40 Tryz.underlying30 hi hz0 hz1 hz2 rfl (by decide) (by decide) _ rfl ?_ ?_ (some ⟨g,3,none⟩) (a5.length - 1) (c5 - 1) (raw.drop 3) rfl qP.out iG.out fJ ?_
          · first | exact flt.jQ _ _ | exact flt.mQ _ _ _
          · first | exact flt.wP _ _ _ | exact flt.wQ _ _ _ _ | exact flt.wR _ _ _ _
          intro v5 w5 hown5 hb5 hs5 bN
          first | have jy:=rot.yw (k:=3) (m:=2) (xs:=[u0,u1,u2,u3,u4,u5]) rfl bN | have jy:=rot.yx (k:=3) (m:=2) (xs:=[u0,u1,u2,u3,u4,u5]) rfl bN
          refine hK.out _ _ (KS _ hb5) ?_;clear hK K
          try simp only [Act.put,List.setIfInBounds_toArray,List.set_cons_zero,List.set_cons_succ,List.getElem_toArray,List.getElem_cons_zero,List.getElem_cons_succ]
          refine bQ (rs:=[14]) (by kernel_rfl) (by simp) ?_;refine bB.cons rfl (by decide) (fun K hK=>?_) ?_
          · refine rot.iH (wd:=X) rfl (.tmp 17) (.tmp 26) 30 rfl 72 i0 _ 3 40 Tryz.underlying30 hi hz0 hz1 hz2 rfl (by decide) (by decide) _ (a5.length - 1) 2 (raw.drop 3) [u0,u1,u2,u3,u4,u5] rfl X.heap.size ?_ ?_ (some ⟨_,0,none⟩) rfl ?_ gJ.out fJ (by decide) ?_
            · first | exact hb5.size | exact (hb5.alloc hb5.size _).size
            · first | exact hown5 | exact own_below' hown5 ((Below.refl _ _).alloc (Nat.le_refl _) _)
            · first | exact jy | exact rot.fD (k:=3) (m:=2) _ _ _ rfl
            intro v6 w6 hown6 kg
            have hb6 : Below X.heap.size X w6:=by
              first | exact hb5.grown kg hb5.size (fun q hq=>(hown5.lt q hq).1) | exact (hb5.alloc hb5.size _).grown kg (hb5.alloc hb5.size _).size (fun q hq=>(hown5.lt q hq).1)
            obtain ⟨r1,r2,r3⟩:=FW.out w6 v6 hown6 hb6;obtain ⟨Az,cz,rfl⟩:=r3;have e6:=(KS _ hb6).1;have f6:=aC.frozen ((fV.out.call hb6).box) 5;refine hK.out _ _ (KS _ hb6) ?_;clear hK K
            try simp only [Act.put,List.setIfInBounds_toArray,List.set_cons_zero,List.set_cons_succ,List.getElem_toArray,List.getElem_cons_zero,List.getElem_cons_succ]
            refine bE (i:=15) (v:=?_) rfl (by kernel_rfl) (fun _ _ _ h=>h) (Or.inl ⟨by rfl,?_⟩) (KS _ hb6) ?_;rotate_left
            · intro w' hSw;obtain ⟨hw0,hw1,hw2,hw3,hw4,Ew,Ev⟩:=hSw;go_simp
              try with_reducible rfl
            try simp only [Act.put,List.setIfInBounds_toArray,List.set_cons_zero,List.set_cons_succ,List.getElem_toArray,List.getElem_cons_zero,List.getElem_cons_succ]
            refine jL (by kernel_rfl) (by kernel_rfl) rfl (fun K hK=>?_);go_simp;refine hK.out _ _ ?_;refine NoPanic.normal ?_;go_wp2_with fail;go_meet;exact ⟨rfl,_,r1,r2,⟨_,_,rfl⟩⟩
          exact bB.nil
        exact bB.nil
      exact bB.nil
    refine bB.cons rfl (by decide) (fun K hK=>?_) ?_
    · go_simp;refine hK.out _ _ ?_ ?_
      · first | exact KS _ (flt.jQ _ _) | exact KS _ (flt.mQ _ _ _) | exact KS _ (hb5.alloc hb5.size _)
      clear hK K
      try simp only [Act.put,List.setIfInBounds_toArray,List.set_cons_zero,List.set_cons_succ,List.getElem_toArray,List.getElem_cons_zero,List.getElem_cons_succ]
      refine bQ (rs:=[0]) (by kernel_rfl) (by simp) ?_;refine bB.cons rfl (by decide) (fun K hK=>?_) ?_
      · go_simp;refine hK.out _ _ ?_ ?_
        · first | exact KS _ (flt.jQ _ _) | exact KS _ (flt.mQ _ _ _) | exact KS _ (hb5.alloc hb5.size _)
        clear hK K
        try simp only [Act.put,List.setIfInBounds_toArray,List.set_cons_zero,List.set_cons_succ,List.getElem_toArray,List.getElem_cons_zero,List.getElem_cons_succ]
        refine bQ (rs:=[4]) (by kernel_rfl) (by simp) ?_;refine bB.cons rfl (by decide) (fun K hK=>?_) ?_
        · refine flt.eY (wd:=X) rfl (.tmp 13) (.tmp 16) 30 rfl 72 i0 _ 3 40 Tryz.underlying30 hi hz0 hz1 hz2 rfl (by decide) (by decide) _ rfl ?_ ?_ (some ⟨g,3,none⟩) (a5.length - 1) (c5 - 1) (raw.drop 3) rfl qP.out iG.out fJ ?_
          · first | exact flt.jQ _ _ | exact flt.mQ _ _ _
          · first | exact flt.wP _ _ _ | exact flt.wQ _ _ _ _ | exact flt.wR _ _ _ _
          intro v5 w5 hown5 hb5 hs5 bN
          first | have jy:=rot.yw (k:=3) (m:=2) (xs:=[u0,u1,u2,u3,u4,u5]) rfl bN | have jy:=rot.yx (k:=3) (m:=2) (xs:=[u0,u1,u2,u3,u4,u5]) rfl bN
          refine hK.out _ _ (KS _ hb5) ?_;clear hK K
          try simp only [Act.put,List.setIfInBounds_toArray,List.set_cons_zero,List.set_cons_succ,List.getElem_toArray,List.getElem_cons_zero,List.getElem_cons_succ]
          refine bQ (rs:=[14]) (by kernel_rfl) (by simp) ?_;refine bB.cons rfl (by decide) (fun K hK=>?_) ?_
          · refine rot.iH (wd:=X) rfl (.tmp 17) (.tmp 26) 30 rfl 72 i0 _ 3 40 Tryz.underlying30 hi hz0 hz1 hz2 rfl (by decide) (by decide) _ (a5.length - 1) 2 (raw.drop 3) [u0,u1,u2,u3,u4,u5] rfl X.heap.size ?_ ?_ (some ⟨_,0,none⟩) rfl ?_ gJ.out fJ (by decide) ?_
            · first | exact hb5.size | exact (hb5.alloc hb5.size _).size
            · first | exact hown5 | exact own_below' hown5 ((Below.refl _ _).alloc (Nat.le_refl _) _)
            · first | exact jy | exact rot.fD (k:=3) (m:=2) _ _ _ rfl
            intro v6 w6 hown6 kg
            have hb6 : Below X.heap.size X w6:=by
              first | exact hb5.grown kg hb5.size (fun q hq=>(hown5.lt q hq).1) | exact (hb5.alloc hb5.size _).grown kg (hb5.alloc hb5.size _).size (fun q hq=>(hown5.lt q hq).1)
            obtain ⟨r1,r2,r3⟩:=FW.out w6 v6 hown6 hb6;obtain ⟨Az,cz,rfl⟩:=r3;have e6:=(KS _ hb6).1;have f6:=aC.frozen ((fV.out.call hb6).box) 5;refine hK.out _ _ (KS _ hb6) ?_;clear hK K
            try simp only [Act.put,List.setIfInBounds_toArray,List.set_cons_zero,List.set_cons_succ,List.getElem_toArray,List.getElem_cons_zero,List.getElem_cons_succ]
            refine bE (i:=15) (v:=?_) rfl (by kernel_rfl) (fun _ _ _ h=>h) (Or.inl ⟨by rfl,?_⟩) (KS _ hb6) ?_;rotate_left
            · intro w' hSw;obtain ⟨hw0,hw1,hw2,hw3,hw4,Ew,Ev⟩:=hSw;go_simp
              try with_reducible rfl
            try simp only [Act.put,List.setIfInBounds_toArray,List.set_cons_zero,List.set_cons_succ,List.getElem_toArray,List.getElem_cons_zero,List.getElem_cons_succ]
            refine jL (by kernel_rfl) (by kernel_rfl) rfl (fun K hK=>?_);go_simp;refine hK.out _ _ ?_;refine NoPanic.normal ?_;go_wp2_with fail;go_meet;exact ⟨rfl,_,r1,r2,⟨_,_,rfl⟩⟩
          exact bB.nil
        exact bB.nil
      exact bB.nil
    exact bB.nil
  case rest=>
    obtain ⟨rfl,v6,FX,FY,Az,cz,rfl⟩:=hcut;have jA:=Lib.hid FX;clear FX FW qP iG gJ NN pf p5;obtain ⟨g1,k1⟩:=(jA.out.yY O1.out Hr.out).res #[.string a0,.slice A1 a1.length c1,.int .i64 a2,.int .i64 a3,.int .i64 a4,.slice Az (bn a5 2).length cz];obtain ⟨g5,k5⟩:=(FY).res #[.string a0,.slice A1 a1.length c1,.int .i64 a2,.int .i64 a3,.int .i64 a4,.slice Az (bn a5 2).length cz];have dJ:=jA.out.box;have bJ:=jA.out.row Hz.out;unfold aC at bJ dJ
    have FV : aH (wc.setRow w.heap.size #[.string a0,.slice A1 a1.length c1,.int .i64 a2,.int .i64 a3,.int .i64 a4,.slice Az (bn a5 2).length cz]) (g1 + g5 + 1) [.string a0,.slice A1 a1.length c1,.int .i64 a2,.int .i64 a3,.int .i64 a4,.slice Az (bn a5 2).length cz] (Host.row ⟨a0,a1,a2,a3,a4,bn a5 2⟩):=by
      unfold Host.row;exact aH.cons (show bf _ (g1 + g5 + 1) _ _ from ⟨rfl,eU.out.1⟩) (aH.cons (bf.deeper (by omega) k1) (aH.cons (show bf _ (g1 + g5 + 1) _ _ from ⟨rfl,eU.out.2.1⟩) (aH.cons (show bf _ (g1 + g5 + 1) _ _ from ⟨rfl,eU.out.2.2.1⟩) (aH.cons (show bf _ (g1 + g5 + 1) _ _ from ⟨rfl,eU.out.2.2.2⟩) (aH.cons (bf.deeper (by omega) k5) (aH.nil))))))
    have HR : Hid (rG Host.row Cv w (.returned (.agg #[.string a0,.slice A1 a1.length c1,.int .i64 a2,.int .i64 a3,.int .i64 a4,.slice Az (bn a5 2).length cz])) (wc.setRow w.heap.size #[.string a0,.slice A1 a1.length c1,.int .i64 a2,.int .i64 a3,.int .i64 a4,.slice Az (bn a5 2).length cz])):=⟨⟨a0,a1,a2,a3,a4,bn a5 2⟩,_,g1 + g5 + 1,QM.out,rfl,FV,ay jA.out.gK (Nat.le_refl _) _⟩;clear FV k1 k5;go_wp2_with (first | (refine wpList_load_row rfl 32 _ rfl b rfl 32 #[.string a0,.slice A1 a1.length c1,.int .i64 a2,.int .i64 a3,.int .i64 a4,.slice Az (bn a5 2).length cz] (0,0) _ dJ Tryz.underlying32 rfl aV ?_) | (refine wpList_store_row rfl 32 _ _ rfl w.heap.size #[.string a0,.slice A1 a1.length c1,.int .i64 a2,.int .i64 a3,.int .i64 a4,.slice Az (bn a5 2).length cz] rfl rfl 32 _ bJ aV rfl (by simp [Value.oneCell']) ?_) | fail);refine bodyPost_ret (v:=.agg #[.string a0,.slice A1 a1.length c1,.int .i64 a2,.int .i64 a3,.int .i64 a4,.slice Az (bn a5 2).length cz]) ?_ rfl HR.out;exact results_cell_row rfl _ _ w.heap.size _ _ (0,0) _ rfl (aI bJ) Tryz.underlying32 rfl aV
end Go.Proofs.YtcfbkfmkjggcdaaGreatDoor.draw
