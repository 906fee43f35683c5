/- spec.SortTaints. Printed by gen/gen_fl.py. -/
import Derived.Test.YtcfbkfmkjggcdaaGreatDoorGA9
import Derived.Test.YtcfbkfmkjggcdaaGreatDoorGA6
import Derived.Test.YtcfbkfmkjggcdaaGreatDoorGA5
import Derived.Test.YtcfbkfmkjggcdaaGreatDoorGA0
import Derived.Deep.RegionLaw
import Derived.Deep.CutRange
namespace Go.Proofs.YtcfbkfmkjggcdaaGreatDoor.taint
open Go.ChangeShapes Go.WideShapes Go.ChangeAt Go.RowKit ty lab dedup need
set_option linter.unusedVariables false
set_option maxRecDepth 1000000 in
set_option maxHeartbeats 32000000 in
theorem rC (l : List av) (f : Nat) (v : Value) (w : World) (h : bf w f v (.sl 3 l.length (l.flatMap av.row))) (hz : bH av.wt l ≤ 1048576) (hn : l.length ≤ 1048576) :
    Calls Tryz.prog 46 #[v] w fun e w'=>dB w w' e 3 av.row (dK bL bA l):=by
  have Tw:=Lib.hid (show bH av.wt (aU bA l) ≤ 1048576 from Nat.le_trans (kY bA av.wt l) hz);obtain ⟨A,c,rfl,hc1,hc2,f',rfl,hk⟩:=bD av.au h;unfold maxLen at hc2;obtain ⟨hrd,hwf⟩:=mI hk;obtain ⟨i0,hi,hz0,hz1,hz2⟩:=info_parts TryzinfITaint;obtain ⟨w1,hw1⟩ : ∃ w1,w1 = w.alloc (.cells #[] 72):=⟨_,rfl⟩;have hb1 : Below w.heap.size w w1:=(by rw [hw1]; exact (Below.refl _ _).alloc (Nat.le_refl _) _);have hown1 : w1.ownsRow w.heap.size 72 3 (.slice (some ⟨w.heap.size,0,none⟩) 0 0) 0 []:=(by rw [hw1]; exact World.ownsRow_lit w #[] 0 (Nat.le_refl _) (by simp [maxLen]) rfl);have eT:=Lib.hid hw1;have jV:=Lib.hid hown1;have iV:=Lib.hid (hrd.below hb1);have Hb1:=Lib.hid hb1;have Hk:=Lib.hid hk;have eU:=Lib.hid hwf;clear h hk hw1 hown1 hb1 hrd hwf hz;by_cases PL : 40 < l.length
  · have Hno:=Lib.hid (kD (P:=bL) (lt:=bA) (l:=l) (fun h=>by have:=h.1; omega));go_enter Tryz.func46,Tryz.ntmps46;go_wp2_with (first | (rw [← eT.out]; refine aB rfl (.tmp 9) (.tmp 10) 30 rfl w.heap.size 72 i0 _ 3 40 Tryz.underlying30 hi hz0 hz1 hz2 rfl (by decide) _ 0 [] rfl jV.out A l.length c (l.flatMap av.cells) rfl iV.out (flt.eP av.cells_one l) (by unfold maxLen; omega) (by omega) Hb1.out.size ?_) | fail);intro v2 w2 hown2 hg2 zk;have Hb2:=Lib.hid (Hb1.out.grown hg2 Hb1.out.size (fun b hb=>by simp [Value.ownBlock] at hb; omega))
    try simp only [Nat.zero_add,List.nil_append] at hown2
    obtain ⟨F,ho,hnd,hrg⟩:=jf hown2 eU.out;obtain ⟨A2,c2,rfl⟩:=aW hown2;have HR:=Lib.hid (show dB w w2 (.returned (.tuple #[.slice A2 l.length c2,.bool false])) 3 av.row (l,false) from ⟨_,1,F,rfl,ho,hnd,Hb2.out⟩);clear hown2 hg2 zk ho hnd hrg;go_wp2_with fail
    go_ret2
    rw [Hno.out];exact HR.out
  have aG:=Lib.hid (fun (h : bL (aU bA l))=>mJ (P:=bL) (lt:=bA) (l:=l) ⟨by omega,h⟩);have Hno:=Lib.hid (fun (h : ¬ bL (aU bA l))=>kD (P:=bL) (lt:=bA) (l:=l) (fun h2=>h h2.2));go_enter Tryz.func46,Tryz.ntmps46;go_wp2_with (first | (rw [← eT.out]; refine aB rfl (.tmp 9) (.tmp 10) 30 rfl w.heap.size 72 i0 _ 3 40 Tryz.underlying30 hi hz0 hz1 hz2 rfl (by decide) _ 0 [] rfl jV.out A l.length c (l.flatMap av.cells) rfl iV.out (flt.eP av.cells_one l) (by unfold maxLen; omega) (by omega) Hb1.out.size ?_) | fail);intro v2 w2 hown2 hg2 zk
  try simp only [Nat.zero_add,List.nil_append] at hown2
  have hb2:=Hb1.out.grown hg2 Hb1.out.size (fun b hb=>by simp [Value.ownBlock] at hb; omega);obtain ⟨A2,c2,rfl⟩:=aW hown2;obtain ⟨w3,hw3⟩ : ∃ w3,w3 = w2.alloc (.cells #[] 72):=⟨_,rfl⟩;have hb3 : Below w2.heap.size w2 w3:=(by rw [hw3]; exact (Below.refl _ _).alloc (Nat.le_refl _) _);have hown3 : w3.ownsRow w2.heap.size 72 3 (.slice (some ⟨w2.heap.size,0,none⟩) 0 0) 0 []:=(by rw [hw3]; exact World.ownsRow_lit w2 #[] 0 (Nat.le_refl _) (by simp [maxLen]) rfl);have q8:=Lib.hid hown2;have ku:=Lib.hid hown3;have Hb2:=Lib.hid hb2;have Hb3:=Lib.hid hb3;have G7:=Lib.hid hw3;have hge : w.heap.size ≤ w2.heap.size:=hb2.size;clear hown2 hown3 hg2 zk hb2 hb3 hw3 eT jV iV Hb1;go_wp2_with fail;rw [← G7.out]
  go_loopw [5,6] (fun vo i wr=>∃ (j g cg : Nat) (S : List av),j ≤ l.length ∧ i = .int .i64 j ∧ Hid (S = aU bA (l.take j)) ∧ vo = .slice (some ⟨g,0,none⟩) S.length cg ∧ wr.ownsRow w2.heap.size 72 3 (.slice (some ⟨g,0,none⟩) S.length cg) S.length (S.flatMap av.cells) ∧ Below w2.heap.size w2 wr) (fun _ i _=>l.length - (intOf i).toNat)
  case atStart=>exact ⟨0,w2.heap.size,0,[],Nat.zero_le _,rfl,rfl,rfl,ku.out,Hb3.out⟩
  case round=>
    clear ku G7 Hb3;obtain ⟨wo,rfl⟩ : ∃ wo,wo = wr:=⟨_,rfl⟩;obtain ⟨j,g,cg,S,hj,rfl,hS,rfl,hown,hbel⟩:=hrel
    have PI : S.length ≤ 40:=by
      have h1:=fI bA (l.take j);rw [← hS.out,List.length_take] at h1;omega
    by_cases hlt : j < l.length
    · have hbw : Below w.heap.size w wo:=ah Hb2.out hbel Hb2.out.size;obtain ⟨g1,o1,rfl,hg1,us,kN,hcc,hls⟩:=(Hk.out.below hbw).get hlt;obtain ⟨rfl,MI⟩:=av.opened hls;have AX : Hid (aU bA (l.take (j + 1)) = iJ bA l[j] S):=(by unfold Hid; rw [List.take_succ_eq_append_getElem hlt,pQ,hS.out])
      obtain ⟨Qf,Qg⟩ : S.length ≤ cg ∧ cg ≤ 9223372036854775807:=by
        obtain ⟨c',e,h1,h2,_⟩:=iB hown rfl;injection e with _ _ e;subst e;exact ⟨h1,h2⟩
      have mq : g < wo.heap.size:=(hown.lt g rfl).2;have X4 : w2.heap.size ≤ g:=(hown.lt g rfl).1;have X0:=Lib.hid (fun w' (hb : Below wo.heap.size wo w')=>show w'.cell? ⟨g1,o1 + j * 3,none⟩ = some (.string l[j].key) from (World.cell?_of_block (hb.block g1 hg1)).trans (hcc 0 _ rfl));have X1:=Lib.hid (fun w' (hb : Below wo.heap.size wo w')=>show w'.cell? ⟨g1,o1 + j * 3 + 1,none⟩ = some (.string l[j].value) from (World.cell?_of_block (hb.block g1 hg1)).trans (hcc 1 _ rfl));have X2:=Lib.hid (fun w' (hb : Below wo.heap.size wo w')=>show w'.cell? ⟨g1,o1 + j * 3 + 2,none⟩ = some (.int .i64 l[j].effect) from (World.cell?_of_block (hb.block g1 hg1)).trans (hcc 2 _ rfl));have Y0:=Lib.hid (fun w' (hb : Below wo.heap.size wo w') q (h : q < S.length)=>show w'.cell? ⟨g,q * 3,none⟩ = some (.string S[q].key) from flt.cell_of av.aD (own_below' hown hb) h (i:=0) (by omega) rfl);have Y1:=Lib.hid (fun w' (hb : Below wo.heap.size wo w') q (h : q < S.length)=>show w'.cell? ⟨g,q * 3 + 1,none⟩ = some (.string S[q].value) from flt.cell_of av.aD (own_below' hown hb) h (i:=1) (by omega) rfl);have Y2:=Lib.hid (fun w' (hb : Below wo.heap.size wo w') q (h : q < S.length)=>show w'.cell? ⟨g,q * 3 + 2,none⟩ = some (.int .i64 S[q].effect) from flt.cell_of av.aD (own_below' hown hb) h (i:=2) (by omega) rfl);have dY:=Lib.hid hown;have bg:=Lib.hid hbel;have hj0 : (0 : Int) ≤ (j : Int):=(by omega);have hjn : (j : Int) < (l.length : Int):=(by omega);clear hown hbel hcc hls kN MI;obtain ⟨x,hx⟩ : ∃ x,x = l[j]:=⟨_,rfl⟩;rw [← hx] at AX X0 X1 X2;clear hx;have HC:=Lib.hid (fun y w'=>zA y x w');go_wp2_with fail
      go_loopw [7] (fun kv wi=>∃ kk : Nat,kk ≤ S.length ∧ kv = .int .i64 kk ∧ Hid (∀ q (h : q < kk) (h2 : q < S.length),bA S[q] x = true) ∧ Below wo.heap.size wo wi) (fun kv _=>S.length - (intOf kv).toNat)
      case atStart=>exact ⟨0,Nat.zero_le _,rfl,fun q h=>by omega,Below.refl _ _⟩
      case round=>
        obtain ⟨wi,rfl⟩ : ∃ wi,wi = wr:=⟨_,rfl⟩;obtain ⟨kk,VQ,rfl,hall,hwi⟩:=hrel;have yB:=Lib.hid hwi;by_cases hkl : kk < S.length
        · have hk0 : (0 : Int) ≤ (kk : Int):=(by omega);have hk1 : (kk : Int) < (S.length : Int):=(by omega);have r0 : ∀ p : ak wi,p.v.cell? ⟨g,kk * 3,none⟩ = some (.string S[kk].key):=fun p=>Y0.out p.v (ah hwi p.h hwi.size) kk hkl;have r1 : ∀ p : ak wi,p.v.cell? ⟨g,kk * 3 + 1,none⟩ = some (.string S[kk].value):=fun p=>Y1.out p.v (ah hwi p.h hwi.size) kk hkl;have r2 : ∀ p : ak wi,p.v.cell? ⟨g,kk * 3 + 2,none⟩ = some (.int .i64 S[kk].effect):=fun p=>Y2.out p.v (ah hwi p.h hwi.size) kk hkl;have e0 : ∀ p : ak wi,p.v.cell? ⟨g1,o1 + j * 3,none⟩ = some (.string x.key):=fun p=>X0.out p.v (ah hwi p.h hwi.size);have e1 : ∀ p : ak wi,p.v.cell? ⟨g1,o1 + j * 3 + 1,none⟩ = some (.string x.value):=fun p=>X1.out p.v (ah hwi p.h hwi.size);have e2 : ∀ p : ak wi,p.v.cell? ⟨g1,o1 + j * 3 + 2,none⟩ = some (.int .i64 x.effect):=fun p=>X2.out p.v (ah hwi p.h hwi.size);have Ia:=Lib.hid (fun p : ak wi=>HC.out S[kk] p.v);clear hwi;cases hb : bA S[kk] x with
          | true=>
            have jK : Hid (∀ q (h : q < kk + 1) (h2 : q < S.length),bA S[q] x = true):=fun q h h2=>by
              by_cases e : q = kk
              · subst e; exact hb
              · exact hall.out q (by omega) h2
            rw [hb] at Ia;clear hall hb;generalize S[kk] = y at Ia r0 r1 r2;go_wp2_with fail;refine wp_region_quiet_below (by kernel_rfl) (by kernel_rfl) ?_
            repeat (refine @wpQuiet_step _ _ _ _ _ _ _ ?_; intro K hK; go_simp; first | (refine hK _ ?_; clear hK K) | (apply Exists.intro; refine ⟨fun _=>?_,hK _ ?_⟩; (first | (go_at_call 114; exact Calls.aF (Ia.out _))); clear hK K))
            refine wpQuiet_nil ?_;intro _ hw';obtain ⟨p,rfl⟩:=hw';go_wp2_with fail
            go_roundw
            case rel=>exact ⟨kk + 1,by omega,by go_num,jK.out,ah yB.out p.h yB.out.size⟩
            case measure=>simp [intOf]; omega
          | false=>
            rw [hb] at Ia;have Hr:=Lib.hid (show ∀ p : ak wi,p.v.cell? ⟨g,kk * 3,none⟩ = some (.string S[kk].key) ∧ p.v.cell? ⟨g,kk * 3 + 1,none⟩ = some (.string S[kk].value) ∧ p.v.cell? ⟨g,kk * 3 + 2,none⟩ = some (.int .i64 S[kk].effect) from fun p=>⟨r0 p,r1 p,r2 p⟩);obtain ⟨y,hy⟩ : ∃ y,y = S[kk]:=⟨_,rfl⟩;rw [← hy] at Ia hb r0 r1 r2;have Hy:=Lib.hid hy;clear Hr hy;go_wp2_with fail;refine wp_region_quiet_below (by kernel_rfl) (by kernel_rfl) ?_
            repeat (refine @wpQuiet_step _ _ _ _ _ _ _ ?_; intro K hK; go_simp; first | (refine hK _ ?_; clear hK K) | (apply Exists.intro; refine ⟨fun _=>?_,hK _ ?_⟩; (first | (go_at_call 114; exact Calls.aF (Ia.out _))); clear hK K))
            refine wpQuiet_nil ?_;intro _ hw';obtain ⟨p,rfl⟩:=hw';have r0:=r0 p;have r1:=r1 p;have r2:=r2 p;have e0:=e0 p;have e1:=e1 p;have e2:=e2 p;obtain ⟨wd,hwd⟩ : ∃ wd,wd = p.v:=⟨_,rfl⟩;have kP:=Lib.hid (show Below wo.heap.size wo wd by rw [hwd]; exact ah yB.out p.h yB.out.size);rw [← hwd] at r0 e0 r1 e1 r2 e2 ⊢;clear hwd Ia;by_cases hxy : y = x
            · have BU:=Lib.hid (oN (x:=x) (S:=S) (k:=kk) hkl (fun q h=>hall.out q h (by omega)) (by rw [← Hy.out]; exact hb) (by rw [← Hy.out,hxy]; exact ER.Qc _));clear Hy hall hb;subst hxy;go_wp2_with fail
              go_quiet (fail)
              obtain ⟨wz,hwz⟩ : ∃ wz,wz = wd.drewN nq:=⟨_,rfl⟩;have X9:=Lib.hid (show Below wo.heap.size wo wz by rw [hwz]; exact below_drewN kP.out _);rw [← hwz];clear hwz;go_wp2_with fail
              go_roundw
              case rel=>exact ⟨j + 1,g,cg,S,by omega,by go_num,by unfold Hid; rw [AX.out,BU.out],rfl,own_below' dY.out X9.out,ah bg.out X9.out bg.out.size⟩
              case measure=>simp [intOf]; omega
            · have kC:=Lib.hid (kr (lt:=bA) (x:=x) (S:=S) (k:=kk) (Nat.le_of_lt hkl) (fun q h=>hall.out q h (by omega)) (fun h=>by
                rw [← Hy.out];refine ⟨hb,?_⟩;cases h2 : bA x y with
                | true=>rfl
                | false=>exact absurd (Ord.tot ER _ _ hb h2) hxy))
              clear Hy hall hb;go_wp2_with fail;go_cut [54] from 40 to 53 (fun sv wx=>sv = .bool false ∧ Hid (∃ n,wx = wd.drewN n))
              case first=>
                by_cases h0 : y.key = x.key
                case neg=>
                  have d0:=dH h0;clear hxy h0
                  go_quiet (fail)
                  go_wp2_with fail;go_meet;exact ⟨rfl,Lib.hid ⟨_,rfl⟩⟩
                have d0:=cu h0;by_cases h1 : y.value = x.value
                case neg=>
                  have d1:=dH h1;clear hxy h0 h1
                  go_quiet (fail)
                  go_wp2_with fail;go_meet;exact ⟨rfl,Lib.hid ⟨_,rfl⟩⟩
                have d1:=cu h1;have h2 : ¬ y.effect = x.effect:=fun h=>hxy (by cases y; cases x; simp only at *; subst h0; subst h1; subst h; rfl);have d2 : (y.effect == x.effect) = false:=beq_eq_false_iff_ne.2 h2;clear hxy h0 h1 h2
                go_quiet (fail)
                go_wp2_with fail;go_meet;exact ⟨rfl,Lib.hid ⟨_,rfl⟩⟩
              case rest=>
                obtain ⟨rfl,hwc⟩:=hcut;obtain ⟨n9,mh⟩:=hwc.out;have hbd : Below wo.heap.size wo wc:=(by rw [mh]; exact below_drewN kP.out _);clear hwc mh kP r0 e0 r1 e1 r2 e2;have e0:=X0.out _ hbd;have e1:=X1.out _ hbd;have e2:=X2.out _ hbd;obtain ⟨wd,hwd⟩ : ∃ wd,wd = wc:=⟨_,rfl⟩;rw [← hwd] at hbd e0 e1 e2 ⊢;clear hwd;have eu:=own_below' dY.out hbd;have iw:=fT eu 0 0 (kk) (by omega) (by omega);rw [Nat.zero_mul,List.drop_zero,flt.kV av.aD] at iw;have iV:=Lib.hid iw;have oP:=Lib.hid eu;have kP:=Lib.hid hbd;have fJ : kk ≤ 64:=(by omega);have hkc : kk ≤ cg:=(by omega);have M4 : kk ≤ S.length:=(by omega);have VZ : (0 : Int) ≤ ((kk : Nat) : Int):=(by omega);have kW : g1 < wd.heap.size:=Nat.lt_of_lt_of_le hg1 kP.out.size;clear hbd eu iw;go_wp2_with fail
                go_region_law (first
                  | (refine flt.eY (wd:=wd) rfl (.tmp 55) (.tmp 58) 30 rfl 72 i0 _ 3 40 Tryz.underlying30 hi hz0 hz1 hz2 rfl (by decide) (by decide) _ rfl ?_ ?_ (some ⟨g,0,none⟩) (kk) cg ((S.take (kk)).flatMap av.cells) rfl iV.out (flt.eP av.cells_one _) fJ ?_
                     · first | exact flt.jQ _ _ | exact flt.mQ _ _ _
                     · first | exact flt.wP _ _ _ | exact flt.wQ _ _ _ _ | exact flt.wR _ _ _ _
                     intro v5 w5 hown5 hb5 hs5 bN;have e0:=(World.cell?_of_block (hb5.block g1 kW)).trans e0;have e1:=(World.cell?_of_block (hb5.block g1 kW)).trans e1;have e2:=(World.cell?_of_block (hb5.block g1 kW)).trans e2
                     first | have jy:=flt.yw (k:=3) rfl bN | have jy:=flt.yx (k:=3) rfl bN | skip)
                  | (refine flt.iR (wd:=wd) rfl (.tmp 59) (.tmp 64) 30 rfl 72 i0 _ 3 40 Tryz.underlying30 hi hz0 hz1 hz2 rfl (by decide) (by decide) _ (kk) ((S.take (kk)).flatMap av.cells) [.string x.key,.string x.value,.int .i64 x.effect] rfl ?_ ?_ (some ⟨_,0,none⟩) rfl ?_ (av.cells_one x) fJ ?_
                     · first | exact hb5 | exact hb5.alloc hb5.size _
                     · first | exact hown5 | exact own_below' hown5 ((Below.refl _ _).alloc (Nat.le_refl _) _)
                     · first | exact jy | exact flt.fD _ _ _ rfl
                     intro v6 w6 hown6 hb6))
                all_goals
                  obtain ⟨g6,c6,rfl⟩:=flt.jd hown6 (by omega);have gZ:=(fT oP.out (kk) (kk * 3) (S.length - kk) rfl (by omega)).below hb6;rw [flt.wO av.aD,List.take_of_length_le (by rw [aM av.aD,List.length_drop]; exact Nat.le_refl _)] at gZ;have nK:=Lib.hid gZ;clear gZ;have gD:=Lib.hid hown6;have zl:=Lib.hid hb6;have l7:=Lib.hid (ah bg.out (ah kP.out hb6 kP.out.size) bg.out.size);have hwd2 : w2.heap.size ≤ wd.heap.size:=Nat.le_trans bg.out.size kP.out.size;have uL : w2.heap.size ≤ w6.heap.size:=l7.out.size;clear hown6 hb6 hown5 hb5 hs5 bN e0 e1 e2;go_wp2_with (first | (refine aB rfl (.tmp 66) (.tmp 69) 30 rfl wd.heap.size 72 i0 _ 3 40 Tryz.underlying30 hi hz0 hz1 hz2 rfl (by decide) _ (kk + 1) _ rfl gD.out _ (S.length - kk) _ ((S.drop kk).flatMap av.cells) rfl (nK.out) (flt.eP av.cells_one _) (by unfold maxLen; omega) (by omega) zl.out.size ?_) | fail)
                  all_goals
                    intro v7 w7 h7 gM ig
                    have yA : Hid (S.length + 1 = (aU bA (l.take (j + 1))).length):=by
                      unfold Hid;rw [AX.out,kC.out,List.length_append,List.length_take,List.length_cons,List.length_drop];omega
                    have en : kk + 1 + (S.length - kk) = (aU bA (l.take (j + 1))).length:=(by have h9:=yA.out; omega)
                    have e7 : ((S.take (kk)).flatMap av.cells ++ [.string x.key,.string x.value,.int .i64 x.effect]) ++ ((S.drop kk).flatMap av.cells) = (aU bA (l.take (j + 1))).flatMap av.cells:=by
                      rw [AX.out,kC.out,List.flatMap_append,List.flatMap_cons,List.append_assoc];rfl
                    have h7 : w7.ownsRow wd.heap.size 72 3 v7 (kk + 1 + (S.length - kk)) ((((S.take (kk)).flatMap av.cells ++ [.string x.key,.string x.value,.int .i64 x.effect])) ++ ((S.drop kk).flatMap av.cells)):=(by simpa using h7);rw [e7,en] at h7;obtain ⟨g7,c7,rfl⟩:=flt.jd h7 (by rw [← en]; omega);have jW:=Lib.hid (bR h7 hwd2);have yC:=Lib.hid (l7.out.grown gM uL (fun b hb=>by have:=(gD.out.lt b hb).1; omega));clear h7 gM ig e7 en;go_wp2_with fail
                    go_roundw
                    case rel=>exact ⟨j + 1,g7,c7,_,by omega,by go_num,rfl,rfl,jW.out,yC.out⟩
                    case measure=>simp [intOf]; omega
        · obtain rfl : kk = S.length:=(by omega);have kC:=Lib.hid (kr (lt:=bA) (x:=x) (S:=S) (k:=S.length) (Nat.le_refl _) (fun q h=>hall.out q h h) (fun h=>absurd h (Nat.lt_irrefl _)));clear hall hwi;go_wp2_with fail
          go_quiet (fail)
          obtain ⟨sK,kQ⟩ : ∃ sK,sK = wi.drewN nq:=⟨_,rfl⟩;have vH:=Lib.hid (show Below wo.heap.size wo sK by rw [kQ]; exact below_drewN yB.out _);rw [← kQ];clear kQ yB;go_wp2_with fail
          go_quiet (fail)
          obtain ⟨wc,hwc⟩ : ∃ wc,wc = sK.drewN nq:=⟨_,rfl⟩;have hbd : Below wo.heap.size wo wc:=(by rw [hwc]; exact below_drewN vH.out _);rw [← hwc];clear hwc vH;have e0:=X0.out _ hbd;have e1:=X1.out _ hbd;have e2:=X2.out _ hbd;obtain ⟨wd,hwd⟩ : ∃ wd,wd = wc:=⟨_,rfl⟩;rw [← hwd] at hbd e0 e1 e2 ⊢;clear hwd;have eu:=own_below' dY.out hbd;have iw:=fT eu 0 0 (S.length) (by omega) (by omega);rw [Nat.zero_mul,List.drop_zero,flt.kV av.aD] at iw;have iV:=Lib.hid iw;have oP:=Lib.hid eu;have kP:=Lib.hid hbd;have fJ : S.length ≤ 64:=(by omega);have hkc : S.length ≤ cg:=(by omega);have M4 : S.length ≤ S.length:=(by omega);have VZ : (0 : Int) ≤ ((S.length : Nat) : Int):=(by omega);have kW : g1 < wd.heap.size:=Nat.lt_of_lt_of_le hg1 kP.out.size;clear hbd eu iw;go_wp2_with fail
          go_region_law (first
            | (refine flt.eY (wd:=wd) rfl (.tmp 55) (.tmp 58) 30 rfl 72 i0 _ 3 40 Tryz.underlying30 hi hz0 hz1 hz2 rfl (by decide) (by decide) _ rfl ?_ ?_ (some ⟨g,0,none⟩) (S.length) cg ((S.take (S.length)).flatMap av.cells) rfl iV.out (flt.eP av.cells_one _) fJ ?_
               · first | exact flt.jQ _ _ | exact flt.mQ _ _ _
               · first | exact flt.wP _ _ _ | exact flt.wQ _ _ _ _ | exact flt.wR _ _ _ _
               intro v5 w5 hown5 hb5 hs5 bN;have e0:=(World.cell?_of_block (hb5.block g1 kW)).trans e0;have e1:=(World.cell?_of_block (hb5.block g1 kW)).trans e1;have e2:=(World.cell?_of_block (hb5.block g1 kW)).trans e2
               first | have jy:=flt.yw (k:=3) rfl bN | have jy:=flt.yx (k:=3) rfl bN | skip)
            | (refine flt.iR (wd:=wd) rfl (.tmp 59) (.tmp 64) 30 rfl 72 i0 _ 3 40 Tryz.underlying30 hi hz0 hz1 hz2 rfl (by decide) (by decide) _ (S.length) ((S.take (S.length)).flatMap av.cells) [.string x.key,.string x.value,.int .i64 x.effect] rfl ?_ ?_ (some ⟨_,0,none⟩) rfl ?_ (av.cells_one x) fJ ?_
               · first | exact hb5 | exact hb5.alloc hb5.size _
               · first | exact hown5 | exact own_below' hown5 ((Below.refl _ _).alloc (Nat.le_refl _) _)
               · first | exact jy | exact flt.fD _ _ _ rfl
               intro v6 w6 hown6 hb6))
          all_goals
            obtain ⟨g6,c6,rfl⟩:=flt.jd hown6 (by omega);have gD:=Lib.hid hown6;have zl:=Lib.hid hb6;have l7:=Lib.hid (ah bg.out (ah kP.out hb6 kP.out.size) bg.out.size);have hwd2 : w2.heap.size ≤ wd.heap.size:=Nat.le_trans bg.out.size kP.out.size;have uL : w2.heap.size ≤ w6.heap.size:=l7.out.size;clear hown6 hb6 hown5 hb5 hs5 bN e0 e1 e2;go_wp2_with (first | (refine aB rfl (.tmp 66) (.tmp 69) 30 rfl wd.heap.size 72 i0 _ 3 40 Tryz.underlying30 hi hz0 hz1 hz2 rfl (by decide) _ (S.length + 1) _ rfl gD.out _ (0) _ ([] : List Value) rfl (jI.nil _ _ _) (fun u hu=>by cases hu) (by unfold maxLen; omega) (by omega) zl.out.size ?_) | fail)
            all_goals
              intro v7 w7 h7 gM ig
              have yA : Hid (S.length + 1 = (aU bA (l.take (j + 1))).length):=by
                unfold Hid;rw [AX.out,kC.out,List.length_append,List.length_take,List.length_cons,List.length_drop];omega
              have en : S.length + 1 + (0) = (aU bA (l.take (j + 1))).length:=(by have h9:=yA.out; omega)
              have e7 : ((S.take (S.length)).flatMap av.cells ++ [.string x.key,.string x.value,.int .i64 x.effect]) ++ ([] : List Value) = (aU bA (l.take (j + 1))).flatMap av.cells:=by
                rw [AX.out,kC.out,List.flatMap_append,List.flatMap_cons,List.append_assoc];rw [List.drop_of_length_le (Nat.le_refl _)]; rfl
              have h7 : w7.ownsRow wd.heap.size 72 3 v7 (S.length + 1 + (0)) ((((S.take (S.length)).flatMap av.cells ++ [.string x.key,.string x.value,.int .i64 x.effect])) ++ ([] : List Value)):=(by simpa using h7);rw [e7,en] at h7;obtain ⟨g7,c7,rfl⟩:=flt.jd h7 (by rw [← en]; omega);have jW:=Lib.hid (bR h7 hwd2);have yC:=Lib.hid (l7.out.grown gM uL (fun b hb=>by have:=(gD.out.lt b hb).1; omega));clear h7 gM ig e7 en;go_wp2_with fail
              go_roundw
              case rel=>exact ⟨j + 1,g7,c7,_,by omega,by go_num,rfl,rfl,jW.out,yC.out⟩
              case measure=>simp [intOf]; omega
    · obtain rfl : j = l.length:=(by omega);have Ya:=hS.out;rw [List.take_length] at Ya;subst Ya;clear hS;have hbw:=ah Hb2.out hbel Hb2.out.size;have M5 : ∀ x ∈ aU bA l,x.Wf:=fun x hx=>eU.out x (gu _ _ x hx);obtain ⟨F,ho,hnd,_⟩:=jf (bR hown hge) M5;obtain ⟨F2,ho2,zm,_⟩:=jf (own_below' q8.out hbel) eU.out;have HC:=Lib.hid (tY (aU bA l) _ _ wo ho.lies Tw.out);have HR1:=Lib.hid (fun w9 (hb : Below wo.heap.size wo w9)=>show dB w w9 (.returned (.tuple #[.slice (some ⟨g,0,none⟩) (aU bA l).length cg,.bool true])) 3 av.row (aU bA l,true) from ⟨_,1,F,rfl,ho.below hb,hnd,ah hbw hb hbw.size⟩);have HR2:=Lib.hid (fun w9 (hb : Below wo.heap.size wo w9)=>show dB w w9 (.returned (.tuple #[.slice A2 l.length c2,.bool false])) 3 av.row (l,false) from ⟨_,1,F2,rfl,ho2.below hb,zm,ah hbw hb hbw.size⟩);clear hown hbel hbw ho ho2 hnd zm M5;by_cases hP : bL (aU bA l)
      · rw [aQ hP] at HC;have HS:=Lib.hid (aG.out hP);clear hP aG Hno;generalize aU bA l = d at *;go_wp2_with fail;refine HC.out.mono ?_;rintro e w4 ⟨rfl,hb⟩;have HR:=Lib.hid (HR1.out w4 hb);clear hb;go_wp2_with fail
        go_ret2
        rw [HS.out];exact HR.out
      · rw [aP hP] at HC;have HS:=Lib.hid (Hno.out hP);clear hP aG Hno;generalize aU bA l = d at HC HR1;go_wp2_with fail;refine HC.out.mono ?_;rintro e w4 ⟨rfl,hb⟩;have HR:=Lib.hid (HR2.out w4 hb);clear hb;go_wp2_with fail
        go_ret2
        rw [HS.out];exact HR.out
end Go.Proofs.YtcfbkfmkjggcdaaGreatDoor.taint
