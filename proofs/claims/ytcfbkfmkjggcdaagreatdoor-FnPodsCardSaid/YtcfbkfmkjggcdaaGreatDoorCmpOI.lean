/- impl.compareTolerances. Printed by gen/gen_cmpo.py. -/
import Derived.Test.YtcfbkfmkjggcdaaGreatDoorGA17
import Derived.Test.YtcfbkfmkjggcdaaGreatDoorGA9
import Derived.Deep.CutRange
import Derived.Deep.RegionHeld3
namespace Go.Proofs.YtcfbkfmkjggcdaaGreatDoor.taint
open Go.ChangeShapes Go.WideShapes Go.ChangeAt Go.RowKit ty lab need
set_option linter.unusedVariables false
set_option linter.unusedSimpArgs false
def abE (X : World) (k1 a1 : ByteArray) (n1 : Int) (q1 : Bool) (k2 a2 : ByteArray) (n2 : Int) (q2 : Bool) (sA sB : Value) (wx : World) : Prop:=
  ∃ b5 b6 : Nat,sA = .pointer (some ⟨b5,0,none⟩) ∧ sB = .pointer (some ⟨b6,0,none⟩) ∧ aC 185 wx b5 [.string k1,.string a1,.int .i64 n1,.bool q1] ∧ aC 185 wx b6 [.string k2,.string a2,.int .i64 n2,.bool q2] ∧ Gr X wx
def CG (X : World) (b5 b6 : Nat) (u0 u1 u2 u3 v0 v1 v2 v3 : Value) (w' : World) : Prop:=Gr X w' ∧ w'.cell? ⟨b5,0,none⟩ = some u0 ∧ w'.cell? ⟨b5,1,none⟩ = some u1 ∧ w'.cell? ⟨b5,2,none⟩ = some u2 ∧ w'.cell? ⟨b5,3,none⟩ = some u3 ∧ w'.cell? ⟨b6,0,none⟩ = some v0 ∧ w'.cell? ⟨b6,1,none⟩ = some v1 ∧ w'.cell? ⟨b6,2,none⟩ = some v2 ∧ w'.cell? ⟨b6,3,none⟩ = some v3
theorem CG.keep {X a b : World} {b5 b6 : Nat} {u0 u1 u2 u3 v0 v1 v2 v3 : Value} (h : CG X b5 b6 u0 u1 u2 u3 v0 v1 v2 v3 a) (g : Gr a b) : CG X b5 b6 u0 u1 u2 u3 v0 v1 v2 v3 b:=by
  obtain ⟨h0,h1,h2,h3,h4,h5,h6,h7,h8⟩:=h;exact ⟨h0.trans g,dI h1 g,dI h2 g,dI h3 g,dI h4 g,dI h5 g,dI h6 g,dI h7 g,dI h8 g⟩
theorem lF (w : World) (o : Obj) : (w.alloc o).heap.size = w.heap.size + 1:=by simp
theorem bT (k a : ByteArray) (n : Int) (q : Bool) : (#[.string k,.string a,.int .i64 n,.bool q] : Array Value).all (·.oneCell') = true:=by simp [Value.oneCell']
theorem TryzsizeFO : (Tryz.prog.info? 185).map (·.size) = some 4:=by kernel_rfl
set_option maxRecDepth 100000 in
set_option maxHeartbeats 32000000 in
theorem xC (x y : aj) (w : World) :
    Calls Tryz.prog 103 #[.agg #[.string x.key,.bool x.equal,.string x.value,.int .i64 x.effect],.agg #[.string y.key,.bool y.equal,.string y.value,.int .i64 y.effect]] w fun e w'=>e = .returned (.int .i64 (zw x y)) ∧ Gr w w':=by
  unfold zw;obtain ⟨k1,q1,a1,n1⟩:=x;obtain ⟨k2,q2,a2,n2⟩:=y;simp only;obtain ⟨X,hX⟩ : ∃ X,X = (w.alloc (.cells #[.string k1,.bool q1,.string a1,.int .i64 n1] 86)).alloc (.cells #[.string k2,.bool q2,.string a2,.int .i64 n2] 86):=⟨_,rfl⟩;have HB : oQ 86 w [.string k1,.bool q1,.string a1,.int .i64 n1] [.string k2,.bool q2,.string a2,.int .i64 n2] X:=(by rw [hX]; exact oQ.new _ _ _ _);have hgr : Gr w X:=(by rw [hX]; exact ((Gr.refl w).alloc _).alloc _);have HF:=Lib.hid (fun (a : ByteArray) (q : Bool) (b : ByteArray) (n : Int) w'=>JU ⟨a,q,b,n⟩ w');simp only at HF
  have KS:=Lib.hid (show ∀ w',Gr X w' → Gr X w' ∧ w'.cell? ⟨w.heap.size,0,none⟩ = some (.string k1) ∧ w'.cell? ⟨w.heap.size,1,none⟩ = some (.bool q1) ∧ w'.cell? ⟨w.heap.size,2,none⟩ = some (.string a1) ∧ w'.cell? ⟨w.heap.size,3,none⟩ = some (.int .i64 n1) ∧ w'.cell? ⟨w.heap.size + 1,0,none⟩ = some (.string k2) ∧ w'.cell? ⟨w.heap.size + 1,1,none⟩ = some (.bool q2) ∧ w'.cell? ⟨w.heap.size + 1,2,none⟩ = some (.string a2) ∧ w'.cell? ⟨w.heap.size + 1,3,none⟩ = some (.int .i64 n2) from fun w' g=>
    ⟨g,dI (HB.cell1 (j:=0) rfl) g,dI (HB.cell1 (j:=1) rfl) g,dI (HB.cell1 (j:=2) rfl) g,dI (HB.cell1 (j:=3) rfl) g,dI (HB.fO (j:=0) rfl) g,dI (HB.fO (j:=1) rfl) g,dI (HB.fO (j:=2) rfl) g,dI (HB.fO (j:=3) rfl) g⟩)
  have nI:=Lib.hid hgr;have HX:=Lib.hid hX;clear HB hgr hX;go_enter Tryz.func103,Tryz.ntmps103;go_upto_region 1 with fail;rw [← HX.out];go_cut [5,6] from 7 to 10 (fun sA sB wx=>Hid (abE X k1 a1 n1 q1 k2 a2 n2 q2 sA sB wx))
  case first=>
    refine wp_region_held_drew (S:=(fun w'=>Gr X w' ∧ w'.cell? ⟨w.heap.size,0,none⟩ = some (.string k1) ∧ w'.cell? ⟨w.heap.size,1,none⟩ = some (.bool q1) ∧ w'.cell? ⟨w.heap.size,2,none⟩ = some (.string a1) ∧ w'.cell? ⟨w.heap.size,3,none⟩ = some (.int .i64 n1) ∧ w'.cell? ⟨w.heap.size + 1,0,none⟩ = some (.string k2) ∧ w'.cell? ⟨w.heap.size + 1,1,none⟩ = some (.bool q2) ∧ w'.cell? ⟨w.heap.size + 1,2,none⟩ = some (.string a2) ∧ w'.cell? ⟨w.heap.size + 1,3,none⟩ = some (.int .i64 n2))) (by kernel_rfl) ?_ (fun hHeld=>?_)
    · exact KS.out _ ((Gr.refl X).drew)
    refine wpAnyH_take (i:=0) (v:=?_) rfl (by kernel_rfl) (by kernel_rfl) (by kernel_rfl) (fun _ _ _ h=>h) (Or.inl ⟨by rfl,?_⟩) (by assumption) ?_;rotate_left
    · intro w' hSw
      try dsimp only at hSw
      go_simp
      try with_reducible rfl
    try simp only [Act.put,List.setIfInBounds_toArray,List.set_cons_zero,List.set_cons_succ,List.getElem_toArray,List.getElem_cons_zero,List.getElem_cons_succ]
    refine wpAnyH_take (i:=2) (v:=?_) rfl (by kernel_rfl) (by kernel_rfl) (by kernel_rfl) (fun _ _ _ h=>h) (Or.inl ⟨by rfl,?_⟩) (by assumption) ?_;rotate_left
    · intro w' hSw
      try dsimp only at hSw
      go_simp
      try with_reducible rfl
    try simp only [Act.put,List.setIfInBounds_toArray,List.set_cons_zero,List.set_cons_succ,List.getElem_toArray,List.getElem_cons_zero,List.getElem_cons_succ]
    refine wpAnyH_ready (rs:=[1,4,5]) (by kernel_rfl) (by simp) ?_;refine AllReadyH.cons rfl (fun K hK=>?_) ?_
    · go_simp;go_at_call 175;refine (HF.out _ _ _ _ _).mono ?_;rintro e w1 ⟨rfl,hg⟩;have hg2:=hHeld.1.trans hg;refine hK.out _ _ ?_ (fun hHeld=>?_)
      · exact KS.out _ hg2
      clear hK K
      try simp only [Act.put,List.setIfInBounds_toArray,List.set_cons_zero,List.set_cons_succ,List.getElem_toArray,List.getElem_cons_zero,List.getElem_cons_succ]
      refine wpAnyH_ready (rs:=[3,4,5]) (by kernel_rfl) (by simp) ?_;refine AllReadyH.cons rfl (fun K hK=>?_) ?_
      · go_simp;go_at_call 175;refine (HF.out _ _ _ _ _).mono ?_;rintro e w2 ⟨rfl,hg⟩;have hg2:=hHeld.1.trans hg;refine hK.out _ _ ?_ (fun hHeld=>?_)
        · exact KS.out _ hg2
        clear hK K
        try simp only [Act.put,List.setIfInBounds_toArray,List.set_cons_zero,List.set_cons_succ,List.getElem_toArray,List.getElem_cons_zero,List.getElem_cons_succ]
        refine wpAnyH_ready (rs:=[4,5]) (by kernel_rfl) (by simp) ?_;refine AllReadyH.cons rfl (fun K hK=>?_) ?_
        · go_simp;have zX : X.heap.size ≤ (w2).heap.size:=hHeld.1.below.size;have R5:=aC.new 185 (w2) [.string ⟨#[]⟩,.string ⟨#[]⟩,.int .i64 0,.bool false];have hg2:=hHeld.1.alloc (.cells ([.string ⟨#[]⟩,.string ⟨#[]⟩,.int .i64 0,.bool false] : List Value).toArray 185);refine hK.out _ _ ?_ (fun hHeld=>?_)
          · exact KS.out _ hg2
          clear hK K
          try simp only [Act.put,List.setIfInBounds_toArray,List.set_cons_zero,List.set_cons_succ,List.getElem_toArray,List.getElem_cons_zero,List.getElem_cons_succ]
          refine wpAnyH_ready (rs:=[5]) (by kernel_rfl) (by simp) ?_;refine AllReadyH.cons rfl (fun K hK=>?_) ?_
          · go_simp;have Oa:=R5;have R5:=R5.alloc (e2:=185) (vs:=[.string ⟨#[]⟩,.string ⟨#[]⟩,.int .i64 0,.bool false]);have zY : X.heap.size ≤ ((w2).alloc (.cells #[.string ⟨#[]⟩,.string ⟨#[]⟩,.int .i64 0,.bool false] 185)).heap.size:=hHeld.1.below.size;have hne : (w2).heap.size ≠ ((w2).alloc (.cells #[.string ⟨#[]⟩,.string ⟨#[]⟩,.int .i64 0,.bool false] 185)).heap.size:=Nat.ne_of_lt (aX Oa);have R6:=aC.new 185 ((w2).alloc (.cells #[.string ⟨#[]⟩,.string ⟨#[]⟩,.int .i64 0,.bool false] 185)) [.string ⟨#[]⟩,.string ⟨#[]⟩,.int .i64 0,.bool false];rw [lF] at R6 zY hne;have hg2:=hHeld.1.alloc (.cells ([.string ⟨#[]⟩,.string ⟨#[]⟩,.int .i64 0,.bool false] : List Value).toArray 185);refine hK.out _ _ ?_ (fun hHeld=>?_)
            · exact KS.out _ hg2
            clear hK K
            try simp only [Act.put,List.setIfInBounds_toArray,List.set_cons_zero,List.set_cons_succ,List.getElem_toArray,List.getElem_cons_zero,List.getElem_cons_succ]
            refine wpAnyH_ready (rs:=[6]) (by kernel_rfl) (by simp) ?_;refine AllReadyH.cons rfl (fun K hK=>?_) ?_
            · refine aY rfl 185 _ _ rfl ((w2).heap.size) #[.string k1,.string a1,.int .i64 n1,.bool q1] rfl rfl 185 [.string ⟨#[]⟩,.string ⟨#[]⟩,.int .i64 0,.bool false] R5 TryzsizeFO rfl (bT _ _ _ _) ?_;have hg2:=hHeld.1.setRow zX #[.string k1,.string a1,.int .i64 n1,.bool q1];have R6:=bS (vs:=#[.string k1,.string a1,.int .i64 n1,.bool q1]) (fun e=>hne e.symm) R6;have R5:=R5.set (vs:=[.string k1,.string a1,.int .i64 n1,.bool q1]);refine hK.out _ _ ?_ (fun hHeld=>?_)
              · exact KS.out _ hg2
              clear hK K
              try simp only [Act.put,List.setIfInBounds_toArray,List.set_cons_zero,List.set_cons_succ,List.getElem_toArray,List.getElem_cons_zero,List.getElem_cons_succ]
              refine wpAnyH_ready (rs:=[7]) (by kernel_rfl) (by simp) ?_;refine AllReadyH.cons rfl (fun K hK=>?_) ?_
              · refine aY rfl 185 _ _ rfl ((w2).heap.size + 1) #[.string k2,.string a2,.int .i64 n2,.bool q2] rfl rfl 185 [.string ⟨#[]⟩,.string ⟨#[]⟩,.int .i64 0,.bool false] R6 TryzsizeFO rfl (bT _ _ _ _) ?_;have hg3:=hHeld.1.setRow zY #[.string k2,.string a2,.int .i64 n2,.bool q2];have R5:=bS (vs:=#[.string k2,.string a2,.int .i64 n2,.bool q2]) hne R5;have R6:=R6.set (vs:=[.string k2,.string a2,.int .i64 n2,.bool q2]);refine hK.out _ _ ?_ (fun hHeld=>?_)
                · exact KS.out _ hg3
                clear hK K
                try simp only [Act.put,List.setIfInBounds_toArray,List.set_cons_zero,List.set_cons_succ,List.getElem_toArray,List.getElem_cons_zero,List.getElem_cons_succ]
                refine wpAnyH_done (by kernel_rfl) ?_ _;go_wp2_with fail;go_meet;exact Lib.hid ⟨_,_,rfl,rfl,R5,R6,hg3⟩
              exact AllReadyH.nil
            exact AllReadyH.nil
          exact AllReadyH.nil
        refine AllReadyH.cons rfl (fun K hK=>?_) ?_
        · go_simp;have zY : X.heap.size ≤ (w2).heap.size:=hHeld.1.below.size;have R6:=aC.new 185 (w2) [.string ⟨#[]⟩,.string ⟨#[]⟩,.int .i64 0,.bool false];have hg2:=hHeld.1.alloc (.cells ([.string ⟨#[]⟩,.string ⟨#[]⟩,.int .i64 0,.bool false] : List Value).toArray 185);refine hK.out _ _ ?_ (fun hHeld=>?_)
          · exact KS.out _ hg2
          clear hK K
          try simp only [Act.put,List.setIfInBounds_toArray,List.set_cons_zero,List.set_cons_succ,List.getElem_toArray,List.getElem_cons_zero,List.getElem_cons_succ]
          refine wpAnyH_ready (rs:=[4]) (by kernel_rfl) (by simp) ?_;refine AllReadyH.cons rfl (fun K hK=>?_) ?_
          · go_simp;have Ob:=R6;have R6:=R6.alloc (e2:=185) (vs:=[.string ⟨#[]⟩,.string ⟨#[]⟩,.int .i64 0,.bool false]);have zX : X.heap.size ≤ ((w2).alloc (.cells #[.string ⟨#[]⟩,.string ⟨#[]⟩,.int .i64 0,.bool false] 185)).heap.size:=hHeld.1.below.size;have hne : ((w2).alloc (.cells #[.string ⟨#[]⟩,.string ⟨#[]⟩,.int .i64 0,.bool false] 185)).heap.size ≠ (w2).heap.size:=Nat.ne_of_gt (aX Ob);have R5:=aC.new 185 ((w2).alloc (.cells #[.string ⟨#[]⟩,.string ⟨#[]⟩,.int .i64 0,.bool false] 185)) [.string ⟨#[]⟩,.string ⟨#[]⟩,.int .i64 0,.bool false];rw [lF] at R5 zX hne;have hg2:=hHeld.1.alloc (.cells ([.string ⟨#[]⟩,.string ⟨#[]⟩,.int .i64 0,.bool false] : List Value).toArray 185);refine hK.out _ _ ?_ (fun hHeld=>?_)
            · exact KS.out _ hg2
            clear hK K
            try simp only [Act.put,List.setIfInBounds_toArray,List.set_cons_zero,List.set_cons_succ,List.getElem_toArray,List.getElem_cons_zero,List.getElem_cons_succ]
            refine wpAnyH_ready (rs:=[6]) (by kernel_rfl) (by simp) ?_;refine AllReadyH.cons rfl (fun K hK=>?_) ?_
            · refine aY rfl 185 _ _ rfl ((w2).heap.size + 1) #[.string k1,.string a1,.int .i64 n1,.bool q1] rfl rfl 185 [.string ⟨#[]⟩,.string ⟨#[]⟩,.int .i64 0,.bool false] R5 TryzsizeFO rfl (bT _ _ _ _) ?_;have hg2:=hHeld.1.setRow zX #[.string k1,.string a1,.int .i64 n1,.bool q1];have R6:=bS (vs:=#[.string k1,.string a1,.int .i64 n1,.bool q1]) (fun e=>hne e.symm) R6;have R5:=R5.set (vs:=[.string k1,.string a1,.int .i64 n1,.bool q1]);refine hK.out _ _ ?_ (fun hHeld=>?_)
              · exact KS.out _ hg2
              clear hK K
              try simp only [Act.put,List.setIfInBounds_toArray,List.set_cons_zero,List.set_cons_succ,List.getElem_toArray,List.getElem_cons_zero,List.getElem_cons_succ]
              refine wpAnyH_ready (rs:=[7]) (by kernel_rfl) (by simp) ?_;refine AllReadyH.cons rfl (fun K hK=>?_) ?_
              · refine aY rfl 185 _ _ rfl ((w2).heap.size) #[.string k2,.string a2,.int .i64 n2,.bool q2] rfl rfl 185 [.string ⟨#[]⟩,.string ⟨#[]⟩,.int .i64 0,.bool false] R6 TryzsizeFO rfl (bT _ _ _ _) ?_;have hg3:=hHeld.1.setRow zY #[.string k2,.string a2,.int .i64 n2,.bool q2];have R5:=bS (vs:=#[.string k2,.string a2,.int .i64 n2,.bool q2]) hne R5;have R6:=R6.set (vs:=[.string k2,.string a2,.int .i64 n2,.bool q2]);refine hK.out _ _ ?_ (fun hHeld=>?_)
                · exact KS.out _ hg3
                clear hK K
                try simp only [Act.put,List.setIfInBounds_toArray,List.set_cons_zero,List.set_cons_succ,List.getElem_toArray,List.getElem_cons_zero,List.getElem_cons_succ]
                refine wpAnyH_done (by kernel_rfl) ?_ _;go_wp2_with fail;go_meet;exact Lib.hid ⟨_,_,rfl,rfl,R5,R6,hg3⟩
              exact AllReadyH.nil
            exact AllReadyH.nil
          exact AllReadyH.nil
        exact AllReadyH.nil
      refine AllReadyH.cons rfl (fun K hK=>?_) ?_
      · go_simp;have zX : X.heap.size ≤ (w1).heap.size:=hHeld.1.below.size;have R5:=aC.new 185 (w1) [.string ⟨#[]⟩,.string ⟨#[]⟩,.int .i64 0,.bool false];have hg2:=hHeld.1.alloc (.cells ([.string ⟨#[]⟩,.string ⟨#[]⟩,.int .i64 0,.bool false] : List Value).toArray 185);refine hK.out _ _ ?_ (fun hHeld=>?_)
        · exact KS.out _ hg2
        clear hK K
        try simp only [Act.put,List.setIfInBounds_toArray,List.set_cons_zero,List.set_cons_succ,List.getElem_toArray,List.getElem_cons_zero,List.getElem_cons_succ]
        refine wpAnyH_ready (rs:=[3,5]) (by kernel_rfl) (by simp) ?_;refine AllReadyH.cons rfl (fun K hK=>?_) ?_
        · go_simp;go_at_call 175;refine (HF.out _ _ _ _ _).mono ?_;rintro e w3 ⟨rfl,hg⟩;have hg2:=hHeld.1.trans hg;have R5:=R5.gr hg;refine hK.out _ _ ?_ (fun hHeld=>?_)
          · exact KS.out _ hg2
          clear hK K
          try simp only [Act.put,List.setIfInBounds_toArray,List.set_cons_zero,List.set_cons_succ,List.getElem_toArray,List.getElem_cons_zero,List.getElem_cons_succ]
          refine wpAnyH_ready (rs:=[5]) (by kernel_rfl) (by simp) ?_;refine AllReadyH.cons rfl (fun K hK=>?_) ?_
          · go_simp;have Oa:=R5;have R5:=R5.alloc (e2:=185) (vs:=[.string ⟨#[]⟩,.string ⟨#[]⟩,.int .i64 0,.bool false]);have zY : X.heap.size ≤ (w3).heap.size:=hHeld.1.below.size;have hne : (w1).heap.size ≠ (w3).heap.size:=Nat.ne_of_lt (aX Oa);have R6:=aC.new 185 (w3) [.string ⟨#[]⟩,.string ⟨#[]⟩,.int .i64 0,.bool false];have hg2:=hHeld.1.alloc (.cells ([.string ⟨#[]⟩,.string ⟨#[]⟩,.int .i64 0,.bool false] : List Value).toArray 185);refine hK.out _ _ ?_ (fun hHeld=>?_)
            · exact KS.out _ hg2
            clear hK K
            try simp only [Act.put,List.setIfInBounds_toArray,List.set_cons_zero,List.set_cons_succ,List.getElem_toArray,List.getElem_cons_zero,List.getElem_cons_succ]
            refine wpAnyH_ready (rs:=[6]) (by kernel_rfl) (by simp) ?_;refine AllReadyH.cons rfl (fun K hK=>?_) ?_
            · refine aY rfl 185 _ _ rfl ((w1).heap.size) #[.string k1,.string a1,.int .i64 n1,.bool q1] rfl rfl 185 [.string ⟨#[]⟩,.string ⟨#[]⟩,.int .i64 0,.bool false] R5 TryzsizeFO rfl (bT _ _ _ _) ?_;have hg2:=hHeld.1.setRow zX #[.string k1,.string a1,.int .i64 n1,.bool q1];have R6:=bS (vs:=#[.string k1,.string a1,.int .i64 n1,.bool q1]) (fun e=>hne e.symm) R6;have R5:=R5.set (vs:=[.string k1,.string a1,.int .i64 n1,.bool q1]);refine hK.out _ _ ?_ (fun hHeld=>?_)
              · exact KS.out _ hg2
              clear hK K
              try simp only [Act.put,List.setIfInBounds_toArray,List.set_cons_zero,List.set_cons_succ,List.getElem_toArray,List.getElem_cons_zero,List.getElem_cons_succ]
              refine wpAnyH_ready (rs:=[7]) (by kernel_rfl) (by simp) ?_;refine AllReadyH.cons rfl (fun K hK=>?_) ?_
              · refine aY rfl 185 _ _ rfl ((w3).heap.size) #[.string k2,.string a2,.int .i64 n2,.bool q2] rfl rfl 185 [.string ⟨#[]⟩,.string ⟨#[]⟩,.int .i64 0,.bool false] R6 TryzsizeFO rfl (bT _ _ _ _) ?_;have hg3:=hHeld.1.setRow zY #[.string k2,.string a2,.int .i64 n2,.bool q2];have R5:=bS (vs:=#[.string k2,.string a2,.int .i64 n2,.bool q2]) hne R5;have R6:=R6.set (vs:=[.string k2,.string a2,.int .i64 n2,.bool q2]);refine hK.out _ _ ?_ (fun hHeld=>?_)
                · exact KS.out _ hg3
                clear hK K
                try simp only [Act.put,List.setIfInBounds_toArray,List.set_cons_zero,List.set_cons_succ,List.getElem_toArray,List.getElem_cons_zero,List.getElem_cons_succ]
                refine wpAnyH_done (by kernel_rfl) ?_ _;go_wp2_with fail;go_meet;exact Lib.hid ⟨_,_,rfl,rfl,R5,R6,hg3⟩
              exact AllReadyH.nil
            exact AllReadyH.nil
          exact AllReadyH.nil
        refine AllReadyH.cons rfl (fun K hK=>?_) ?_
        · go_simp;have Oa:=R5;have R5:=R5.alloc (e2:=185) (vs:=[.string ⟨#[]⟩,.string ⟨#[]⟩,.int .i64 0,.bool false]);have zY : X.heap.size ≤ ((w1).alloc (.cells #[.string ⟨#[]⟩,.string ⟨#[]⟩,.int .i64 0,.bool false] 185)).heap.size:=hHeld.1.below.size;have hne : (w1).heap.size ≠ ((w1).alloc (.cells #[.string ⟨#[]⟩,.string ⟨#[]⟩,.int .i64 0,.bool false] 185)).heap.size:=Nat.ne_of_lt (aX Oa);have R6:=aC.new 185 ((w1).alloc (.cells #[.string ⟨#[]⟩,.string ⟨#[]⟩,.int .i64 0,.bool false] 185)) [.string ⟨#[]⟩,.string ⟨#[]⟩,.int .i64 0,.bool false];rw [lF] at R6 zY hne;have hg2:=hHeld.1.alloc (.cells ([.string ⟨#[]⟩,.string ⟨#[]⟩,.int .i64 0,.bool false] : List Value).toArray 185);refine hK.out _ _ ?_ (fun hHeld=>?_)
          · exact KS.out _ hg2
          clear hK K
          try simp only [Act.put,List.setIfInBounds_toArray,List.set_cons_zero,List.set_cons_succ,List.getElem_toArray,List.getElem_cons_zero,List.getElem_cons_succ]
          refine wpAnyH_ready (rs:=[3]) (by kernel_rfl) (by simp) ?_;refine AllReadyH.cons rfl (fun K hK=>?_) ?_
          · go_simp;go_at_call 175;refine (HF.out _ _ _ _ _).mono ?_;rintro e w4 ⟨rfl,hg⟩;have hg2:=hHeld.1.trans hg;have R5:=R5.gr hg;have R6:=R6.gr hg;refine hK.out _ _ ?_ (fun hHeld=>?_)
            · exact KS.out _ hg2
            clear hK K
            try simp only [Act.put,List.setIfInBounds_toArray,List.set_cons_zero,List.set_cons_succ,List.getElem_toArray,List.getElem_cons_zero,List.getElem_cons_succ]
            refine wpAnyH_ready (rs:=[6]) (by kernel_rfl) (by simp) ?_;refine AllReadyH.cons rfl (fun K hK=>?_) ?_
            · refine aY rfl 185 _ _ rfl ((w1).heap.size) #[.string k1,.string a1,.int .i64 n1,.bool q1] rfl rfl 185 [.string ⟨#[]⟩,.string ⟨#[]⟩,.int .i64 0,.bool false] R5 TryzsizeFO rfl (bT _ _ _ _) ?_;have hg2:=hHeld.1.setRow zX #[.string k1,.string a1,.int .i64 n1,.bool q1];have R6:=bS (vs:=#[.string k1,.string a1,.int .i64 n1,.bool q1]) (fun e=>hne e.symm) R6;have R5:=R5.set (vs:=[.string k1,.string a1,.int .i64 n1,.bool q1]);refine hK.out _ _ ?_ (fun hHeld=>?_)
              · exact KS.out _ hg2
              clear hK K
              try simp only [Act.put,List.setIfInBounds_toArray,List.set_cons_zero,List.set_cons_succ,List.getElem_toArray,List.getElem_cons_zero,List.getElem_cons_succ]
              refine wpAnyH_ready (rs:=[7]) (by kernel_rfl) (by simp) ?_;refine AllReadyH.cons rfl (fun K hK=>?_) ?_
              · refine aY rfl 185 _ _ rfl ((w1).heap.size + 1) #[.string k2,.string a2,.int .i64 n2,.bool q2] rfl rfl 185 [.string ⟨#[]⟩,.string ⟨#[]⟩,.int .i64 0,.bool false] R6 TryzsizeFO rfl (bT _ _ _ _) ?_;have hg3:=hHeld.1.setRow zY #[.string k2,.string a2,.int .i64 n2,.bool q2];have R5:=bS (vs:=#[.string k2,.string a2,.int .i64 n2,.bool q2]) hne R5;have R6:=R6.set (vs:=[.string k2,.string a2,.int .i64 n2,.bool q2]);refine hK.out _ _ ?_ (fun hHeld=>?_)
                · exact KS.out _ hg3
                clear hK K
                try simp only [Act.put,List.setIfInBounds_toArray,List.set_cons_zero,List.set_cons_succ,List.getElem_toArray,List.getElem_cons_zero,List.getElem_cons_succ]
                refine wpAnyH_done (by kernel_rfl) ?_ _;go_wp2_with fail;go_meet;exact Lib.hid ⟨_,_,rfl,rfl,R5,R6,hg3⟩
              exact AllReadyH.nil
            exact AllReadyH.nil
          exact AllReadyH.nil
        exact AllReadyH.nil
      refine AllReadyH.cons rfl (fun K hK=>?_) ?_
      · go_simp;have zY : X.heap.size ≤ (w1).heap.size:=hHeld.1.below.size;have R6:=aC.new 185 (w1) [.string ⟨#[]⟩,.string ⟨#[]⟩,.int .i64 0,.bool false];have hg2:=hHeld.1.alloc (.cells ([.string ⟨#[]⟩,.string ⟨#[]⟩,.int .i64 0,.bool false] : List Value).toArray 185);refine hK.out _ _ ?_ (fun hHeld=>?_)
        · exact KS.out _ hg2
        clear hK K
        try simp only [Act.put,List.setIfInBounds_toArray,List.set_cons_zero,List.set_cons_succ,List.getElem_toArray,List.getElem_cons_zero,List.getElem_cons_succ]
        refine wpAnyH_ready (rs:=[3,4]) (by kernel_rfl) (by simp) ?_;refine AllReadyH.cons rfl (fun K hK=>?_) ?_
        · go_simp;go_at_call 175;refine (HF.out _ _ _ _ _).mono ?_;rintro e w5 ⟨rfl,hg⟩;have hg2:=hHeld.1.trans hg;have R6:=R6.gr hg;refine hK.out _ _ ?_ (fun hHeld=>?_)
          · exact KS.out _ hg2
          clear hK K
          try simp only [Act.put,List.setIfInBounds_toArray,List.set_cons_zero,List.set_cons_succ,List.getElem_toArray,List.getElem_cons_zero,List.getElem_cons_succ]
          refine wpAnyH_ready (rs:=[4]) (by kernel_rfl) (by simp) ?_;refine AllReadyH.cons rfl (fun K hK=>?_) ?_
          · go_simp;have Ob:=R6;have R6:=R6.alloc (e2:=185) (vs:=[.string ⟨#[]⟩,.string ⟨#[]⟩,.int .i64 0,.bool false]);have zX : X.heap.size ≤ (w5).heap.size:=hHeld.1.below.size;have hne : (w5).heap.size ≠ (w1).heap.size:=Nat.ne_of_gt (aX Ob);have R5:=aC.new 185 (w5) [.string ⟨#[]⟩,.string ⟨#[]⟩,.int .i64 0,.bool false];have hg2:=hHeld.1.alloc (.cells ([.string ⟨#[]⟩,.string ⟨#[]⟩,.int .i64 0,.bool false] : List Value).toArray 185);refine hK.out _ _ ?_ (fun hHeld=>?_)
            · exact KS.out _ hg2
            clear hK K
            try simp only [Act.put,List.setIfInBounds_toArray,List.set_cons_zero,List.set_cons_succ,List.getElem_toArray,List.getElem_cons_zero,List.getElem_cons_succ]
            refine wpAnyH_ready (rs:=[6]) (by kernel_rfl) (by simp) ?_;refine AllReadyH.cons rfl (fun K hK=>?_) ?_
            · refine aY rfl 185 _ _ rfl ((w5).heap.size) #[.string k1,.string a1,.int .i64 n1,.bool q1] rfl rfl 185 [.string ⟨#[]⟩,.string ⟨#[]⟩,.int .i64 0,.bool false] R5 TryzsizeFO rfl (bT _ _ _ _) ?_;have hg2:=hHeld.1.setRow zX #[.string k1,.string a1,.int .i64 n1,.bool q1];have R6:=bS (vs:=#[.string k1,.string a1,.int .i64 n1,.bool q1]) (fun e=>hne e.symm) R6;have R5:=R5.set (vs:=[.string k1,.string a1,.int .i64 n1,.bool q1]);refine hK.out _ _ ?_ (fun hHeld=>?_)
              · exact KS.out _ hg2
              clear hK K
              try simp only [Act.put,List.setIfInBounds_toArray,List.set_cons_zero,List.set_cons_succ,List.getElem_toArray,List.getElem_cons_zero,List.getElem_cons_succ]
              refine wpAnyH_ready (rs:=[7]) (by kernel_rfl) (by simp) ?_;refine AllReadyH.cons rfl (fun K hK=>?_) ?_
              · refine aY rfl 185 _ _ rfl ((w1).heap.size) #[.string k2,.string a2,.int .i64 n2,.bool q2] rfl rfl 185 [.string ⟨#[]⟩,.string ⟨#[]⟩,.int .i64 0,.bool false] R6 TryzsizeFO rfl (bT _ _ _ _) ?_;have hg3:=hHeld.1.setRow zY #[.string k2,.string a2,.int .i64 n2,.bool q2];have R5:=bS (vs:=#[.string k2,.string a2,.int .i64 n2,.bool q2]) hne R5;have R6:=R6.set (vs:=[.string k2,.string a2,.int .i64 n2,.bool q2]);refine hK.out _ _ ?_ (fun hHeld=>?_)
                · exact KS.out _ hg3
                clear hK K
                try simp only [Act.put,List.setIfInBounds_toArray,List.set_cons_zero,List.set_cons_succ,List.getElem_toArray,List.getElem_cons_zero,List.getElem_cons_succ]
                refine wpAnyH_done (by kernel_rfl) ?_ _;go_wp2_with fail;go_meet;exact Lib.hid ⟨_,_,rfl,rfl,R5,R6,hg3⟩
              exact AllReadyH.nil
            exact AllReadyH.nil
          exact AllReadyH.nil
        refine AllReadyH.cons rfl (fun K hK=>?_) ?_
        · go_simp;have Ob:=R6;have R6:=R6.alloc (e2:=185) (vs:=[.string ⟨#[]⟩,.string ⟨#[]⟩,.int .i64 0,.bool false]);have zX : X.heap.size ≤ ((w1).alloc (.cells #[.string ⟨#[]⟩,.string ⟨#[]⟩,.int .i64 0,.bool false] 185)).heap.size:=hHeld.1.below.size;have hne : ((w1).alloc (.cells #[.string ⟨#[]⟩,.string ⟨#[]⟩,.int .i64 0,.bool false] 185)).heap.size ≠ (w1).heap.size:=Nat.ne_of_gt (aX Ob);have R5:=aC.new 185 ((w1).alloc (.cells #[.string ⟨#[]⟩,.string ⟨#[]⟩,.int .i64 0,.bool false] 185)) [.string ⟨#[]⟩,.string ⟨#[]⟩,.int .i64 0,.bool false];rw [lF] at R5 zX hne;have hg2:=hHeld.1.alloc (.cells ([.string ⟨#[]⟩,.string ⟨#[]⟩,.int .i64 0,.bool false] : List Value).toArray 185);refine hK.out _ _ ?_ (fun hHeld=>?_)
          · exact KS.out _ hg2
          clear hK K
          try simp only [Act.put,List.setIfInBounds_toArray,List.set_cons_zero,List.set_cons_succ,List.getElem_toArray,List.getElem_cons_zero,List.getElem_cons_succ]
          refine wpAnyH_ready (rs:=[3]) (by kernel_rfl) (by simp) ?_;refine AllReadyH.cons rfl (fun K hK=>?_) ?_
          · go_simp;go_at_call 175;refine (HF.out _ _ _ _ _).mono ?_;rintro e w6 ⟨rfl,hg⟩;have hg2:=hHeld.1.trans hg;have R5:=R5.gr hg;have R6:=R6.gr hg;refine hK.out _ _ ?_ (fun hHeld=>?_)
            · exact KS.out _ hg2
            clear hK K
            try simp only [Act.put,List.setIfInBounds_toArray,List.set_cons_zero,List.set_cons_succ,List.getElem_toArray,List.getElem_cons_zero,List.getElem_cons_succ]
            refine wpAnyH_ready (rs:=[6]) (by kernel_rfl) (by simp) ?_;refine AllReadyH.cons rfl (fun K hK=>?_) ?_
            · refine aY rfl 185 _ _ rfl ((w1).heap.size + 1) #[.string k1,.string a1,.int .i64 n1,.bool q1] rfl rfl 185 [.string ⟨#[]⟩,.string ⟨#[]⟩,.int .i64 0,.bool false] R5 TryzsizeFO rfl (bT _ _ _ _) ?_;have hg2:=hHeld.1.setRow zX #[.string k1,.string a1,.int .i64 n1,.bool q1];have R6:=bS (vs:=#[.string k1,.string a1,.int .i64 n1,.bool q1]) (fun e=>hne e.symm) R6;have R5:=R5.set (vs:=[.string k1,.string a1,.int .i64 n1,.bool q1]);refine hK.out _ _ ?_ (fun hHeld=>?_)
              · exact KS.out _ hg2
              clear hK K
              try simp only [Act.put,List.setIfInBounds_toArray,List.set_cons_zero,List.set_cons_succ,List.getElem_toArray,List.getElem_cons_zero,List.getElem_cons_succ]
              refine wpAnyH_ready (rs:=[7]) (by kernel_rfl) (by simp) ?_;refine AllReadyH.cons rfl (fun K hK=>?_) ?_
              · refine aY rfl 185 _ _ rfl ((w1).heap.size) #[.string k2,.string a2,.int .i64 n2,.bool q2] rfl rfl 185 [.string ⟨#[]⟩,.string ⟨#[]⟩,.int .i64 0,.bool false] R6 TryzsizeFO rfl (bT _ _ _ _) ?_;have hg3:=hHeld.1.setRow zY #[.string k2,.string a2,.int .i64 n2,.bool q2];have R5:=bS (vs:=#[.string k2,.string a2,.int .i64 n2,.bool q2]) hne R5;have R6:=R6.set (vs:=[.string k2,.string a2,.int .i64 n2,.bool q2]);refine hK.out _ _ ?_ (fun hHeld=>?_)
                · exact KS.out _ hg3
                clear hK K
                try simp only [Act.put,List.setIfInBounds_toArray,List.set_cons_zero,List.set_cons_succ,List.getElem_toArray,List.getElem_cons_zero,List.getElem_cons_succ]
                refine wpAnyH_done (by kernel_rfl) ?_ _;go_wp2_with fail;go_meet;exact Lib.hid ⟨_,_,rfl,rfl,R5,R6,hg3⟩
              exact AllReadyH.nil
            exact AllReadyH.nil
          exact AllReadyH.nil
        exact AllReadyH.nil
      exact AllReadyH.nil
    refine AllReadyH.cons rfl (fun K hK=>?_) ?_
    · go_simp;have zX : X.heap.size ≤ (X.drew).heap.size:=hHeld.1.below.size;have R5:=aC.new 185 (X.drew) [.string ⟨#[]⟩,.string ⟨#[]⟩,.int .i64 0,.bool false];have hg2:=hHeld.1.alloc (.cells ([.string ⟨#[]⟩,.string ⟨#[]⟩,.int .i64 0,.bool false] : List Value).toArray 185);refine hK.out _ _ ?_ (fun hHeld=>?_)
      · exact KS.out _ hg2
      clear hK K
      try simp only [Act.put,List.setIfInBounds_toArray,List.set_cons_zero,List.set_cons_succ,List.getElem_toArray,List.getElem_cons_zero,List.getElem_cons_succ]
      refine wpAnyH_ready (rs:=[1,5]) (by kernel_rfl) (by simp) ?_;refine AllReadyH.cons rfl (fun K hK=>?_) ?_
      · go_simp;go_at_call 175;refine (HF.out _ _ _ _ _).mono ?_;rintro e w7 ⟨rfl,hg⟩;have hg2:=hHeld.1.trans hg;have R5:=R5.gr hg;refine hK.out _ _ ?_ (fun hHeld=>?_)
        · exact KS.out _ hg2
        clear hK K
        try simp only [Act.put,List.setIfInBounds_toArray,List.set_cons_zero,List.set_cons_succ,List.getElem_toArray,List.getElem_cons_zero,List.getElem_cons_succ]
        refine wpAnyH_ready (rs:=[3,5]) (by kernel_rfl) (by simp) ?_;refine AllReadyH.cons rfl (fun K hK=>?_) ?_
        · go_simp;go_at_call 175;refine (HF.out _ _ _ _ _).mono ?_;rintro e w8 ⟨rfl,hg⟩;have hg2:=hHeld.1.trans hg;have R5:=R5.gr hg;refine hK.out _ _ ?_ (fun hHeld=>?_)
          · exact KS.out _ hg2
          clear hK K
          try simp only [Act.put,List.setIfInBounds_toArray,List.set_cons_zero,List.set_cons_succ,List.getElem_toArray,List.getElem_cons_zero,List.getElem_cons_succ]
          refine wpAnyH_ready (rs:=[5]) (by kernel_rfl) (by simp) ?_;refine AllReadyH.cons rfl (fun K hK=>?_) ?_
          · go_simp;have Oa:=R5;have R5:=R5.alloc (e2:=185) (vs:=[.string ⟨#[]⟩,.string ⟨#[]⟩,.int .i64 0,.bool false]);have zY : X.heap.size ≤ (w8).heap.size:=hHeld.1.below.size;have hne : (X.drew).heap.size ≠ (w8).heap.size:=Nat.ne_of_lt (aX Oa);have R6:=aC.new 185 (w8) [.string ⟨#[]⟩,.string ⟨#[]⟩,.int .i64 0,.bool false];have hg2:=hHeld.1.alloc (.cells ([.string ⟨#[]⟩,.string ⟨#[]⟩,.int .i64 0,.bool false] : List Value).toArray 185);refine hK.out _ _ ?_ (fun hHeld=>?_)
            · exact KS.out _ hg2
            clear hK K
            try simp only [Act.put,List.setIfInBounds_toArray,List.set_cons_zero,List.set_cons_succ,List.getElem_toArray,List.getElem_cons_zero,List.getElem_cons_succ]
            refine wpAnyH_ready (rs:=[6]) (by kernel_rfl) (by simp) ?_;refine AllReadyH.cons rfl (fun K hK=>?_) ?_
            · refine aY rfl 185 _ _ rfl ((X.drew).heap.size) #[.string k1,.string a1,.int .i64 n1,.bool q1] rfl rfl 185 [.string ⟨#[]⟩,.string ⟨#[]⟩,.int .i64 0,.bool false] R5 TryzsizeFO rfl (bT _ _ _ _) ?_;have hg2:=hHeld.1.setRow zX #[.string k1,.string a1,.int .i64 n1,.bool q1];have R6:=bS (vs:=#[.string k1,.string a1,.int .i64 n1,.bool q1]) (fun e=>hne e.symm) R6;have R5:=R5.set (vs:=[.string k1,.string a1,.int .i64 n1,.bool q1]);refine hK.out _ _ ?_ (fun hHeld=>?_)
              · exact KS.out _ hg2
              clear hK K
              try simp only [Act.put,List.setIfInBounds_toArray,List.set_cons_zero,List.set_cons_succ,List.getElem_toArray,List.getElem_cons_zero,List.getElem_cons_succ]
              refine wpAnyH_ready (rs:=[7]) (by kernel_rfl) (by simp) ?_;refine AllReadyH.cons rfl (fun K hK=>?_) ?_
              · refine aY rfl 185 _ _ rfl ((w8).heap.size) #[.string k2,.string a2,.int .i64 n2,.bool q2] rfl rfl 185 [.string ⟨#[]⟩,.string ⟨#[]⟩,.int .i64 0,.bool false] R6 TryzsizeFO rfl (bT _ _ _ _) ?_;have hg3:=hHeld.1.setRow zY #[.string k2,.string a2,.int .i64 n2,.bool q2];have R5:=bS (vs:=#[.string k2,.string a2,.int .i64 n2,.bool q2]) hne R5;have R6:=R6.set (vs:=[.string k2,.string a2,.int .i64 n2,.bool q2]);refine hK.out _ _ ?_ (fun hHeld=>?_)
                · exact KS.out _ hg3
                clear hK K
                try simp only [Act.put,List.setIfInBounds_toArray,List.set_cons_zero,List.set_cons_succ,List.getElem_toArray,List.getElem_cons_zero,List.getElem_cons_succ]
                refine wpAnyH_done (by kernel_rfl) ?_ _;go_wp2_with fail;go_meet;exact Lib.hid ⟨_,_,rfl,rfl,R5,R6,hg3⟩
              exact AllReadyH.nil
            exact AllReadyH.nil
          exact AllReadyH.nil
        refine AllReadyH.cons rfl (fun K hK=>?_) ?_
        · go_simp;have Oa:=R5;have R5:=R5.alloc (e2:=185) (vs:=[.string ⟨#[]⟩,.string ⟨#[]⟩,.int .i64 0,.bool false]);have zY : X.heap.size ≤ (w7).heap.size:=hHeld.1.below.size;have hne : (X.drew).heap.size ≠ (w7).heap.size:=Nat.ne_of_lt (aX Oa);have R6:=aC.new 185 (w7) [.string ⟨#[]⟩,.string ⟨#[]⟩,.int .i64 0,.bool false];have hg2:=hHeld.1.alloc (.cells ([.string ⟨#[]⟩,.string ⟨#[]⟩,.int .i64 0,.bool false] : List Value).toArray 185);refine hK.out _ _ ?_ (fun hHeld=>?_)
          · exact KS.out _ hg2
          clear hK K
          try simp only [Act.put,List.setIfInBounds_toArray,List.set_cons_zero,List.set_cons_succ,List.getElem_toArray,List.getElem_cons_zero,List.getElem_cons_succ]
          refine wpAnyH_ready (rs:=[3]) (by kernel_rfl) (by simp) ?_;refine AllReadyH.cons rfl (fun K hK=>?_) ?_
          · go_simp;go_at_call 175;refine (HF.out _ _ _ _ _).mono ?_;rintro e w9 ⟨rfl,hg⟩;have hg2:=hHeld.1.trans hg;have R5:=R5.gr hg;have R6:=R6.gr hg;refine hK.out _ _ ?_ (fun hHeld=>?_)
            · exact KS.out _ hg2
            clear hK K
            try simp only [Act.put,List.setIfInBounds_toArray,List.set_cons_zero,List.set_cons_succ,List.getElem_toArray,List.getElem_cons_zero,List.getElem_cons_succ]
            refine wpAnyH_ready (rs:=[6]) (by kernel_rfl) (by simp) ?_;refine AllReadyH.cons rfl (fun K hK=>?_) ?_
            · refine aY rfl 185 _ _ rfl ((X.drew).heap.size) #[.string k1,.string a1,.int .i64 n1,.bool q1] rfl rfl 185 [.string ⟨#[]⟩,.string ⟨#[]⟩,.int .i64 0,.bool false] R5 TryzsizeFO rfl (bT _ _ _ _) ?_;have hg2:=hHeld.1.setRow zX #[.string k1,.string a1,.int .i64 n1,.bool q1];have R6:=bS (vs:=#[.string k1,.string a1,.int .i64 n1,.bool q1]) (fun e=>hne e.symm) R6;have R5:=R5.set (vs:=[.string k1,.string a1,.int .i64 n1,.bool q1]);refine hK.out _ _ ?_ (fun hHeld=>?_)
              · exact KS.out _ hg2
              clear hK K
              try simp only [Act.put,List.setIfInBounds_toArray,List.set_cons_zero,List.set_cons_succ,List.getElem_toArray,List.getElem_cons_zero,List.getElem_cons_succ]
              refine wpAnyH_ready (rs:=[7]) (by kernel_rfl) (by simp) ?_;refine AllReadyH.cons rfl (fun K hK=>?_) ?_
              · refine aY rfl 185 _ _ rfl ((w7).heap.size) #[.string k2,.string a2,.int .i64 n2,.bool q2] rfl rfl 185 [.string ⟨#[]⟩,.string ⟨#[]⟩,.int .i64 0,.bool false] R6 TryzsizeFO rfl (bT _ _ _ _) ?_;have hg3:=hHeld.1.setRow zY #[.string k2,.string a2,.int .i64 n2,.bool q2];have R5:=bS (vs:=#[.string k2,.string a2,.int .i64 n2,.bool q2]) hne R5;have R6:=R6.set (vs:=[.string k2,.string a2,.int .i64 n2,.bool q2]);refine hK.out _ _ ?_ (fun hHeld=>?_)
                · exact KS.out _ hg3
                clear hK K
                try simp only [Act.put,List.setIfInBounds_toArray,List.set_cons_zero,List.set_cons_succ,List.getElem_toArray,List.getElem_cons_zero,List.getElem_cons_succ]
                refine wpAnyH_done (by kernel_rfl) ?_ _;go_wp2_with fail;go_meet;exact Lib.hid ⟨_,_,rfl,rfl,R5,R6,hg3⟩
              exact AllReadyH.nil
            exact AllReadyH.nil
          exact AllReadyH.nil
        exact AllReadyH.nil
      refine AllReadyH.cons rfl (fun K hK=>?_) ?_
      · go_simp;have Oa:=R5;have R5:=R5.alloc (e2:=185) (vs:=[.string ⟨#[]⟩,.string ⟨#[]⟩,.int .i64 0,.bool false]);have zY : X.heap.size ≤ ((X.drew).alloc (.cells #[.string ⟨#[]⟩,.string ⟨#[]⟩,.int .i64 0,.bool false] 185)).heap.size:=hHeld.1.below.size;have hne : (X.drew).heap.size ≠ ((X.drew).alloc (.cells #[.string ⟨#[]⟩,.string ⟨#[]⟩,.int .i64 0,.bool false] 185)).heap.size:=Nat.ne_of_lt (aX Oa);have R6:=aC.new 185 ((X.drew).alloc (.cells #[.string ⟨#[]⟩,.string ⟨#[]⟩,.int .i64 0,.bool false] 185)) [.string ⟨#[]⟩,.string ⟨#[]⟩,.int .i64 0,.bool false];rw [lF] at R6 zY hne;have hg2:=hHeld.1.alloc (.cells ([.string ⟨#[]⟩,.string ⟨#[]⟩,.int .i64 0,.bool false] : List Value).toArray 185);refine hK.out _ _ ?_ (fun hHeld=>?_)
        · exact KS.out _ hg2
        clear hK K
        try simp only [Act.put,List.setIfInBounds_toArray,List.set_cons_zero,List.set_cons_succ,List.getElem_toArray,List.getElem_cons_zero,List.getElem_cons_succ]
        refine wpAnyH_ready (rs:=[1]) (by kernel_rfl) (by simp) ?_;refine AllReadyH.cons rfl (fun K hK=>?_) ?_
        · go_simp;go_at_call 175;refine (HF.out _ _ _ _ _).mono ?_;rintro e WV ⟨rfl,hg⟩;have hg2:=hHeld.1.trans hg;have R5:=R5.gr hg;have R6:=R6.gr hg;refine hK.out _ _ ?_ (fun hHeld=>?_)
          · exact KS.out _ hg2
          clear hK K
          try simp only [Act.put,List.setIfInBounds_toArray,List.set_cons_zero,List.set_cons_succ,List.getElem_toArray,List.getElem_cons_zero,List.getElem_cons_succ]
          refine wpAnyH_ready (rs:=[3]) (by kernel_rfl) (by simp) ?_;refine AllReadyH.cons rfl (fun K hK=>?_) ?_
          · go_simp;go_at_call 175;refine (HF.out _ _ _ _ _).mono ?_;rintro e w11 ⟨rfl,hg⟩;have hg2:=hHeld.1.trans hg;have R5:=R5.gr hg;have R6:=R6.gr hg;refine hK.out _ _ ?_ (fun hHeld=>?_)
            · exact KS.out _ hg2
            clear hK K
            try simp only [Act.put,List.setIfInBounds_toArray,List.set_cons_zero,List.set_cons_succ,List.getElem_toArray,List.getElem_cons_zero,List.getElem_cons_succ]
            refine wpAnyH_ready (rs:=[6]) (by kernel_rfl) (by simp) ?_;refine AllReadyH.cons rfl (fun K hK=>?_) ?_
            · refine aY rfl 185 _ _ rfl ((X.drew).heap.size) #[.string k1,.string a1,.int .i64 n1,.bool q1] rfl rfl 185 [.string ⟨#[]⟩,.string ⟨#[]⟩,.int .i64 0,.bool false] R5 TryzsizeFO rfl (bT _ _ _ _) ?_;have hg2:=hHeld.1.setRow zX #[.string k1,.string a1,.int .i64 n1,.bool q1];have R6:=bS (vs:=#[.string k1,.string a1,.int .i64 n1,.bool q1]) (fun e=>hne e.symm) R6;have R5:=R5.set (vs:=[.string k1,.string a1,.int .i64 n1,.bool q1]);refine hK.out _ _ ?_ (fun hHeld=>?_)
              · exact KS.out _ hg2
              clear hK K
              try simp only [Act.put,List.setIfInBounds_toArray,List.set_cons_zero,List.set_cons_succ,List.getElem_toArray,List.getElem_cons_zero,List.getElem_cons_succ]
              refine wpAnyH_ready (rs:=[7]) (by kernel_rfl) (by simp) ?_;refine AllReadyH.cons rfl (fun K hK=>?_) ?_
              · refine aY rfl 185 _ _ rfl ((X.drew).heap.size + 1) #[.string k2,.string a2,.int .i64 n2,.bool q2] rfl rfl 185 [.string ⟨#[]⟩,.string ⟨#[]⟩,.int .i64 0,.bool false] R6 TryzsizeFO rfl (bT _ _ _ _) ?_;have hg3:=hHeld.1.setRow zY #[.string k2,.string a2,.int .i64 n2,.bool q2];have R5:=bS (vs:=#[.string k2,.string a2,.int .i64 n2,.bool q2]) hne R5;have R6:=R6.set (vs:=[.string k2,.string a2,.int .i64 n2,.bool q2]);refine hK.out _ _ ?_ (fun hHeld=>?_)
                · exact KS.out _ hg3
                clear hK K
                try simp only [Act.put,List.setIfInBounds_toArray,List.set_cons_zero,List.set_cons_succ,List.getElem_toArray,List.getElem_cons_zero,List.getElem_cons_succ]
                refine wpAnyH_done (by kernel_rfl) ?_ _;go_wp2_with fail;go_meet;exact Lib.hid ⟨_,_,rfl,rfl,R5,R6,hg3⟩
              exact AllReadyH.nil
            exact AllReadyH.nil
          exact AllReadyH.nil
        exact AllReadyH.nil
      exact AllReadyH.nil
    refine AllReadyH.cons rfl (fun K hK=>?_) ?_
    · go_simp;have zY : X.heap.size ≤ (X.drew).heap.size:=hHeld.1.below.size;have R6:=aC.new 185 (X.drew) [.string ⟨#[]⟩,.string ⟨#[]⟩,.int .i64 0,.bool false];have hg2:=hHeld.1.alloc (.cells ([.string ⟨#[]⟩,.string ⟨#[]⟩,.int .i64 0,.bool false] : List Value).toArray 185);refine hK.out _ _ ?_ (fun hHeld=>?_)
      · exact KS.out _ hg2
      clear hK K
      try simp only [Act.put,List.setIfInBounds_toArray,List.set_cons_zero,List.set_cons_succ,List.getElem_toArray,List.getElem_cons_zero,List.getElem_cons_succ]
      refine wpAnyH_ready (rs:=[1,4]) (by kernel_rfl) (by simp) ?_;refine AllReadyH.cons rfl (fun K hK=>?_) ?_
      · go_simp;go_at_call 175;refine (HF.out _ _ _ _ _).mono ?_;rintro e Oc ⟨rfl,hg⟩;have hg2:=hHeld.1.trans hg;have R6:=R6.gr hg;refine hK.out _ _ ?_ (fun hHeld=>?_)
        · exact KS.out _ hg2
        clear hK K
        try simp only [Act.put,List.setIfInBounds_toArray,List.set_cons_zero,List.set_cons_succ,List.getElem_toArray,List.getElem_cons_zero,List.getElem_cons_succ]
        refine wpAnyH_ready (rs:=[3,4]) (by kernel_rfl) (by simp) ?_;refine AllReadyH.cons rfl (fun K hK=>?_) ?_
        · go_simp;go_at_call 175;refine (HF.out _ _ _ _ _).mono ?_;rintro e WW ⟨rfl,hg⟩;have hg2:=hHeld.1.trans hg;have R6:=R6.gr hg;refine hK.out _ _ ?_ (fun hHeld=>?_)
          · exact KS.out _ hg2
          clear hK K
          try simp only [Act.put,List.setIfInBounds_toArray,List.set_cons_zero,List.set_cons_succ,List.getElem_toArray,List.getElem_cons_zero,List.getElem_cons_succ]
          refine wpAnyH_ready (rs:=[4]) (by kernel_rfl) (by simp) ?_;refine AllReadyH.cons rfl (fun K hK=>?_) ?_
          · go_simp;have Ob:=R6;have R6:=R6.alloc (e2:=185) (vs:=[.string ⟨#[]⟩,.string ⟨#[]⟩,.int .i64 0,.bool false]);have zX : X.heap.size ≤ (WW).heap.size:=hHeld.1.below.size;have hne : (WW).heap.size ≠ (X.drew).heap.size:=Nat.ne_of_gt (aX Ob);have R5:=aC.new 185 (WW) [.string ⟨#[]⟩,.string ⟨#[]⟩,.int .i64 0,.bool false];have hg2:=hHeld.1.alloc (.cells ([.string ⟨#[]⟩,.string ⟨#[]⟩,.int .i64 0,.bool false] : List Value).toArray 185);refine hK.out _ _ ?_ (fun hHeld=>?_)
            · exact KS.out _ hg2
            clear hK K
            try simp only [Act.put,List.setIfInBounds_toArray,List.set_cons_zero,List.set_cons_succ,List.getElem_toArray,List.getElem_cons_zero,List.getElem_cons_succ]
            refine wpAnyH_ready (rs:=[6]) (by kernel_rfl) (by simp) ?_;refine AllReadyH.cons rfl (fun K hK=>?_) ?_
            · refine aY rfl 185 _ _ rfl ((WW).heap.size) #[.string k1,.string a1,.int .i64 n1,.bool q1] rfl rfl 185 [.string ⟨#[]⟩,.string ⟨#[]⟩,.int .i64 0,.bool false] R5 TryzsizeFO rfl (bT _ _ _ _) ?_;have hg2:=hHeld.1.setRow zX #[.string k1,.string a1,.int .i64 n1,.bool q1];have R6:=bS (vs:=#[.string k1,.string a1,.int .i64 n1,.bool q1]) (fun e=>hne e.symm) R6;have R5:=R5.set (vs:=[.string k1,.string a1,.int .i64 n1,.bool q1]);refine hK.out _ _ ?_ (fun hHeld=>?_)
              · exact KS.out _ hg2
              clear hK K
              try simp only [Act.put,List.setIfInBounds_toArray,List.set_cons_zero,List.set_cons_succ,List.getElem_toArray,List.getElem_cons_zero,List.getElem_cons_succ]
              refine wpAnyH_ready (rs:=[7]) (by kernel_rfl) (by simp) ?_;refine AllReadyH.cons rfl (fun K hK=>?_) ?_
              · refine aY rfl 185 _ _ rfl ((X.drew).heap.size) #[.string k2,.string a2,.int .i64 n2,.bool q2] rfl rfl 185 [.string ⟨#[]⟩,.string ⟨#[]⟩,.int .i64 0,.bool false] R6 TryzsizeFO rfl (bT _ _ _ _) ?_;have hg3:=hHeld.1.setRow zY #[.string k2,.string a2,.int .i64 n2,.bool q2];have R5:=bS (vs:=#[.string k2,.string a2,.int .i64 n2,.bool q2]) hne R5;have R6:=R6.set (vs:=[.string k2,.string a2,.int .i64 n2,.bool q2]);refine hK.out _ _ ?_ (fun hHeld=>?_)
                · exact KS.out _ hg3
                clear hK K
                try simp only [Act.put,List.setIfInBounds_toArray,List.set_cons_zero,List.set_cons_succ,List.getElem_toArray,List.getElem_cons_zero,List.getElem_cons_succ]
                refine wpAnyH_done (by kernel_rfl) ?_ _;go_wp2_with fail;go_meet;exact Lib.hid ⟨_,_,rfl,rfl,R5,R6,hg3⟩
              exact AllReadyH.nil
            exact AllReadyH.nil
          exact AllReadyH.nil
        refine AllReadyH.cons rfl (fun K hK=>?_) ?_
        · go_simp;have Ob:=R6;have R6:=R6.alloc (e2:=185) (vs:=[.string ⟨#[]⟩,.string ⟨#[]⟩,.int .i64 0,.bool false]);have zX : X.heap.size ≤ (Oc).heap.size:=hHeld.1.below.size;have hne : (Oc).heap.size ≠ (X.drew).heap.size:=Nat.ne_of_gt (aX Ob);have R5:=aC.new 185 (Oc) [.string ⟨#[]⟩,.string ⟨#[]⟩,.int .i64 0,.bool false];have hg2:=hHeld.1.alloc (.cells ([.string ⟨#[]⟩,.string ⟨#[]⟩,.int .i64 0,.bool false] : List Value).toArray 185);refine hK.out _ _ ?_ (fun hHeld=>?_)
          · exact KS.out _ hg2
          clear hK K
          try simp only [Act.put,List.setIfInBounds_toArray,List.set_cons_zero,List.set_cons_succ,List.getElem_toArray,List.getElem_cons_zero,List.getElem_cons_succ]
          refine wpAnyH_ready (rs:=[3]) (by kernel_rfl) (by simp) ?_;refine AllReadyH.cons rfl (fun K hK=>?_) ?_
          · go_simp;go_at_call 175;refine (HF.out _ _ _ _ _).mono ?_;rintro e WX ⟨rfl,hg⟩;have hg2:=hHeld.1.trans hg;have R5:=R5.gr hg;have R6:=R6.gr hg;refine hK.out _ _ ?_ (fun hHeld=>?_)
            · exact KS.out _ hg2
            clear hK K
            try simp only [Act.put,List.setIfInBounds_toArray,List.set_cons_zero,List.set_cons_succ,List.getElem_toArray,List.getElem_cons_zero,List.getElem_cons_succ]
            refine wpAnyH_ready (rs:=[6]) (by kernel_rfl) (by simp) ?_;refine AllReadyH.cons rfl (fun K hK=>?_) ?_
            · refine aY rfl 185 _ _ rfl ((Oc).heap.size) #[.string k1,.string a1,.int .i64 n1,.bool q1] rfl rfl 185 [.string ⟨#[]⟩,.string ⟨#[]⟩,.int .i64 0,.bool false] R5 TryzsizeFO rfl (bT _ _ _ _) ?_;have hg2:=hHeld.1.setRow zX #[.string k1,.string a1,.int .i64 n1,.bool q1];have R6:=bS (vs:=#[.string k1,.string a1,.int .i64 n1,.bool q1]) (fun e=>hne e.symm) R6;have R5:=R5.set (vs:=[.string k1,.string a1,.int .i64 n1,.bool q1]);refine hK.out _ _ ?_ (fun hHeld=>?_)
              · exact KS.out _ hg2
              clear hK K
              try simp only [Act.put,List.setIfInBounds_toArray,List.set_cons_zero,List.set_cons_succ,List.getElem_toArray,List.getElem_cons_zero,List.getElem_cons_succ]
              refine wpAnyH_ready (rs:=[7]) (by kernel_rfl) (by simp) ?_;refine AllReadyH.cons rfl (fun K hK=>?_) ?_
              · refine aY rfl 185 _ _ rfl ((X.drew).heap.size) #[.string k2,.string a2,.int .i64 n2,.bool q2] rfl rfl 185 [.string ⟨#[]⟩,.string ⟨#[]⟩,.int .i64 0,.bool false] R6 TryzsizeFO rfl (bT _ _ _ _) ?_;have hg3:=hHeld.1.setRow zY #[.string k2,.string a2,.int .i64 n2,.bool q2];have R5:=bS (vs:=#[.string k2,.string a2,.int .i64 n2,.bool q2]) hne R5;have R6:=R6.set (vs:=[.string k2,.string a2,.int .i64 n2,.bool q2]);refine hK.out _ _ ?_ (fun hHeld=>?_)
                · exact KS.out _ hg3
                clear hK K
                try simp only [Act.put,List.setIfInBounds_toArray,List.set_cons_zero,List.set_cons_succ,List.getElem_toArray,List.getElem_cons_zero,List.getElem_cons_succ]
                refine wpAnyH_done (by kernel_rfl) ?_ _;go_wp2_with fail;go_meet;exact Lib.hid ⟨_,_,rfl,rfl,R5,R6,hg3⟩
              exact AllReadyH.nil
            exact AllReadyH.nil
          exact AllReadyH.nil
        exact AllReadyH.nil
      refine AllReadyH.cons rfl (fun K hK=>?_) ?_
      · go_simp;have Ob:=R6;have R6:=R6.alloc (e2:=185) (vs:=[.string ⟨#[]⟩,.string ⟨#[]⟩,.int .i64 0,.bool false]);have zX : X.heap.size ≤ ((X.drew).alloc (.cells #[.string ⟨#[]⟩,.string ⟨#[]⟩,.int .i64 0,.bool false] 185)).heap.size:=hHeld.1.below.size;have hne : ((X.drew).alloc (.cells #[.string ⟨#[]⟩,.string ⟨#[]⟩,.int .i64 0,.bool false] 185)).heap.size ≠ (X.drew).heap.size:=Nat.ne_of_gt (aX Ob);have R5:=aC.new 185 ((X.drew).alloc (.cells #[.string ⟨#[]⟩,.string ⟨#[]⟩,.int .i64 0,.bool false] 185)) [.string ⟨#[]⟩,.string ⟨#[]⟩,.int .i64 0,.bool false];rw [lF] at R5 zX hne;have hg2:=hHeld.1.alloc (.cells ([.string ⟨#[]⟩,.string ⟨#[]⟩,.int .i64 0,.bool false] : List Value).toArray 185);refine hK.out _ _ ?_ (fun hHeld=>?_)
        · exact KS.out _ hg2
        clear hK K
        try simp only [Act.put,List.setIfInBounds_toArray,List.set_cons_zero,List.set_cons_succ,List.getElem_toArray,List.getElem_cons_zero,List.getElem_cons_succ]
        refine wpAnyH_ready (rs:=[1]) (by kernel_rfl) (by simp) ?_;refine AllReadyH.cons rfl (fun K hK=>?_) ?_
        · go_simp;go_at_call 175;refine (HF.out _ _ _ _ _).mono ?_;rintro e w15 ⟨rfl,hg⟩;have hg2:=hHeld.1.trans hg;have R5:=R5.gr hg;have R6:=R6.gr hg;refine hK.out _ _ ?_ (fun hHeld=>?_)
          · exact KS.out _ hg2
          clear hK K
          try simp only [Act.put,List.setIfInBounds_toArray,List.set_cons_zero,List.set_cons_succ,List.getElem_toArray,List.getElem_cons_zero,List.getElem_cons_succ]
          refine wpAnyH_ready (rs:=[3]) (by kernel_rfl) (by simp) ?_;refine AllReadyH.cons rfl (fun K hK=>?_) ?_
          · go_simp;go_at_call 175;refine (HF.out _ _ _ _ _).mono ?_;rintro e w16 ⟨rfl,hg⟩;have hg2:=hHeld.1.trans hg;have R5:=R5.gr hg;have R6:=R6.gr hg;refine hK.out _ _ ?_ (fun hHeld=>?_)
            · exact KS.out _ hg2
            clear hK K
            try simp only [Act.put,List.setIfInBounds_toArray,List.set_cons_zero,List.set_cons_succ,List.getElem_toArray,List.getElem_cons_zero,List.getElem_cons_succ]
            refine wpAnyH_ready (rs:=[6]) (by kernel_rfl) (by simp) ?_;refine AllReadyH.cons rfl (fun K hK=>?_) ?_
            · refine aY rfl 185 _ _ rfl ((X.drew).heap.size + 1) #[.string k1,.string a1,.int .i64 n1,.bool q1] rfl rfl 185 [.string ⟨#[]⟩,.string ⟨#[]⟩,.int .i64 0,.bool false] R5 TryzsizeFO rfl (bT _ _ _ _) ?_;have hg2:=hHeld.1.setRow zX #[.string k1,.string a1,.int .i64 n1,.bool q1];have R6:=bS (vs:=#[.string k1,.string a1,.int .i64 n1,.bool q1]) (fun e=>hne e.symm) R6;have R5:=R5.set (vs:=[.string k1,.string a1,.int .i64 n1,.bool q1]);refine hK.out _ _ ?_ (fun hHeld=>?_)
              · exact KS.out _ hg2
              clear hK K
              try simp only [Act.put,List.setIfInBounds_toArray,List.set_cons_zero,List.set_cons_succ,List.getElem_toArray,List.getElem_cons_zero,List.getElem_cons_succ]
              refine wpAnyH_ready (rs:=[7]) (by kernel_rfl) (by simp) ?_;refine AllReadyH.cons rfl (fun K hK=>?_) ?_
              · refine aY rfl 185 _ _ rfl ((X.drew).heap.size) #[.string k2,.string a2,.int .i64 n2,.bool q2] rfl rfl 185 [.string ⟨#[]⟩,.string ⟨#[]⟩,.int .i64 0,.bool false] R6 TryzsizeFO rfl (bT _ _ _ _) ?_;have hg3:=hHeld.1.setRow zY #[.string k2,.string a2,.int .i64 n2,.bool q2];have R5:=bS (vs:=#[.string k2,.string a2,.int .i64 n2,.bool q2]) hne R5;have R6:=R6.set (vs:=[.string k2,.string a2,.int .i64 n2,.bool q2]);refine hK.out _ _ ?_ (fun hHeld=>?_)
                · exact KS.out _ hg3
                clear hK K
                try simp only [Act.put,List.setIfInBounds_toArray,List.set_cons_zero,List.set_cons_succ,List.getElem_toArray,List.getElem_cons_zero,List.getElem_cons_succ]
                refine wpAnyH_done (by kernel_rfl) ?_ _;go_wp2_with fail;go_meet;exact Lib.hid ⟨_,_,rfl,rfl,R5,R6,hg3⟩
              exact AllReadyH.nil
            exact AllReadyH.nil
          exact AllReadyH.nil
        exact AllReadyH.nil
      exact AllReadyH.nil
    exact AllReadyH.nil
  case rest=>
    obtain ⟨b5,b6,rfl,rfl,r5,r6,hgx⟩:=hcut.out;clear hcut;have HS:=Lib.hid (fun a b w'=>Tryz.strings_Compare a b w');have HY:=Lib.hid (fun w'=>QU q1 q2 w');have HC:=Lib.hid (fun w'=>xY k1 a1 n1 k2 a2 n2 w')
    have HO:=Lib.hid (fun (V : World) (a b c : Int)=>show Calls Tryz.prog 169 #[.slice (some ⟨V.heap.size,0,none⟩) 3 3] (V.alloc (.cells #[.int .i64 a,.int .i64 b,.int .i64 c] 3)) fun e w'=>e = .returned (.int .i64 (Jp a b c)) ∧ (V.alloc (.cells #[.int .i64 a,.int .i64 b,.int .i64 c] 3)) = w' from by
      rw [← xB];exact D8 [a,b,c] (some ⟨V.heap.size,0,none⟩) 3 _ (by simp) (zT V _ _ _ _))
    have h8 : CG X b5 b6 (.string k1) (.string a1) (.int .i64 n1) (.bool q1) (.string k2) (.string a2) (.int .i64 n2) (.bool q2) wc:=⟨hgx,r5.cell 0 _ rfl,r5.cell 1 _ rfl,r5.cell 2 _ rfl,r5.cell 3 _ rfl,r6.cell 0 _ rfl,r6.cell 1 _ rfl,r6.cell 2 _ rfl,r6.cell 3 _ rfl⟩;have H8:=Lib.hid h8;clear r5 r6 hgx h8 HF KS;go_wp2_with fail;go_region_held3 (fun w'=>Gr X w' ∧ w'.cell? ⟨b5,0,none⟩ = some (.string k1) ∧ w'.cell? ⟨b5,1,none⟩ = some (.string a1) ∧ w'.cell? ⟨b5,2,none⟩ = some (.int .i64 n1) ∧ w'.cell? ⟨b5,3,none⟩ = some (.bool q1) ∧ w'.cell? ⟨b6,0,none⟩ = some (.string k2) ∧ w'.cell? ⟨b6,1,none⟩ = some (.string a2) ∧ w'.cell? ⟨b6,2,none⟩ = some (.int .i64 n2) ∧ w'.cell? ⟨b6,3,none⟩ = some (.bool q2)) (first | assumption | exact H8.out.keep (Gr.refl _).drew | exact CG.keep (by assumption) ((Gr.refl _).alloc _) | exact CG.keep (by assumption) (by assumption)) (first | (go_at_call 98; refine (HS.out _ _ _).mono ?_; rintro e w1 ⟨rfl,rfl⟩) | (go_at_call 176; refine (HY.out _).mono ?_; rintro e w1 ⟨rfl,rfl⟩) | (go_at_call 177; refine (HC.out _).mono ?_; rintro e w1 ⟨rfl,hg⟩; have gX:=H8.out.1.drew.trans hg) | (go_at_call 169; refine (HO.out _ _ _ _).mono ?_; rintro e w1 ⟨rfl,rfl⟩))
    all_goals
      go_wp2_with fail;go_ret;exact ⟨rfl,nI.out.trans (gX.alloc _)⟩
end Go.Proofs.YtcfbkfmkjggcdaaGreatDoor.taint
