/- Texts of layers 1 to 12, joined. -/
import Derived.Test.YtifgcfepbenpjaaGreatNb24
set_option maxRecDepth 100000
set_option maxHeartbeats 12800000
set_option linter.unusedVariables false
namespace Go.Proofs.YtifgcfepbenpjaaGreat
open Go.RowKit
theorem pispair_any (n:Int) (w:World):Calls Tryz.prog 115 #[.int .i64 n] w fun e w'=>e=.returned (.bool (decide (0≤n∧n < 3)))∧w'=w:=by
 by_cases h1:0≤n
 ·by_cases h2:n < 3
  ·rw [decide_eq_true ⟨h1,h2⟩]
   go_enter Tryz.func115,Tryz.ntmps115
   go_wp2
   go_ret
   exact ⟨rfl,rfl⟩
  ·rw [decide_eq_false (fun h=>h2 h.2)]
   go_enter Tryz.func115,Tryz.ntmps115
   go_wp2
   go_ret
   exact ⟨rfl,rfl⟩
 ·rw [decide_eq_false (fun h=>h1 h.1)]
  go_enter Tryz.func115,Tryz.ntmps115
  go_wp2
  go_ret
  exact ⟨rfl,rfl⟩
theorem pissite_any (n:Int) (w:World):Calls Tryz.prog 116 #[.int .i64 n] w fun e w'=>e=.returned (.bool (decide (0≤n∧n≤1)))∧w'=w:=by
 by_cases h1:0≤n
 ·by_cases h2:n≤1
  ·rw [decide_eq_true ⟨h1,h2⟩]
   go_enter Tryz.func116,Tryz.ntmps116
   go_wp2
   go_ret
   exact ⟨rfl,rfl⟩
  ·rw [decide_eq_false (fun h=>h2 h.2)]
   go_enter Tryz.func116,Tryz.ntmps116
   go_wp2
   go_ret
   exact ⟨rfl,rfl⟩
 ·rw [decide_eq_false (fun h=>h1 h.1)]
  go_enter Tryz.func116,Tryz.ntmps116
  go_wp2
  go_ret
  exact ⟨rfl,rfl⟩
theorem psizes8_any (w:World):Calls Tryz.prog 76 #[] w fun e w'=>∃ g,e=.returned (.slice (some ⟨g,0,none⟩) 8 8)∧Arg w' .i64 (some ⟨g,0,none⟩) 8 8 sz8R∧Below w.heap.size w w':=by
 have hml:8≤maxLen:=by decide
 have HA:=Lh (show Arg (w.alloc (.cells #[.int .i64 1,.int .i64 1,.int .i64 4,.int .i64 4,.int .i64 1,.int .i64 1,.int .i64 1,.int .i64 1] 3)) .i64 (some ⟨w.heap.size,0,none⟩) 8 8 sz8R from ⟨lit_row w 3 .i64 sz8R _ _ _ rfl rfl (by simp),rfl,Nat.le_refl _,hml⟩)
 go_enter Tryz.func76,Tryz.ntmps76
 go_wp2
 go_ret
 exact ⟨_,rfl,HA.out,(Below.refl _ _).alloc (Nat.le_refl _) _⟩
theorem psizes2_any (w:World):Calls Tryz.prog 174 #[] w fun e w'=>∃ g,e=.returned (.slice (some ⟨g,0,none⟩) 2 2)∧Arg w' .i64 (some ⟨g,0,none⟩) 2 2 [1,1]∧Below w.heap.size w w':=by
 have hml:2≤maxLen:=by decide
 have HA:=Lh (show Arg (w.alloc (.cells #[.int .i64 1,.int .i64 1] 3)) .i64 (some ⟨w.heap.size,0,none⟩) 2 2 [1,1] from ⟨lit_row w 3 .i64 [1,1] _ _ _ rfl rfl (by simp),rfl,Nat.le_refl _,hml⟩)
 go_enter Tryz.func174,Tryz.ntmps174
 go_wp2
 go_ret
 exact ⟨_,rfl,HA.out,(Below.refl _ _).alloc (Nat.le_refl _) _⟩
theorem pflags_any (r:Rc) (w:World):Calls Tryz.prog 75 #[recV r] w fun e w'=>e=.returned (.int .u64 (flagR r))∧Below w.heap.size w w':=by
 obtain ⟨p,b,e,l,h,f,q,a⟩:=r
 obtain ⟨x,hbel⟩:=rec_box w ⟨p,b,e,l,h,f,q,a⟩
 obtain ⟨c0,c1,c2,c3,c4,c5,c6,c7⟩:=x.rec
 dsimp only at c0 c1 c2 c3 c4 c5 c6 c7
 have BEL:=Lh hbel
 clear x hbel
 cases q <;> cases a
 ·rw [show flagR _=0 from rfl]
  go_enter Tryz.func75,Tryz.ntmps75
  go_wp2
  go_ret
  exact ⟨rfl,BEL.out⟩
 ·rw [show flagR _=1 from rfl]
  go_enter Tryz.func75,Tryz.ntmps75
  go_wp2
  go_ret
  exact ⟨rfl,BEL.out⟩
 ·rw [show flagR _=2 from rfl]
  go_enter Tryz.func75,Tryz.ntmps75
  go_wp2
  go_ret
  exact ⟨rfl,BEL.out⟩
 ·rw [show flagR _=3 from rfl]
  go_enter Tryz.func75,Tryz.ntmps75
  go_wp2
  go_ret
  exact ⟨rfl,BEL.out⟩
theorem pcheck11_any (r:Rc) (w:World) (hi:isR r):Calls Tryz.prog 73 #[recV r] w fun e w'=>e=.returned (.int .i64 (rcE r))∧Below w.heap.size w w':=by
 have hE:mayR r→rcE r=0:=fun h=>if_pos h
 have hN:¬ mayR r→rcE r=110:=fun h=>if_neg h
 obtain ⟨⟨i1,_⟩,⟨i2,_⟩,i3,_⟩:=hi
 obtain ⟨p,b,e,l,h,f,q,a⟩:=r
 dsimp only at i1 i2 i3
 obtain ⟨E,hEE⟩:∃ E,E=rcE ⟨p,b,e,l,h,f,q,a⟩:=⟨_,rfl⟩
 rw [← hEE] at hE hN ⊢
 clear hEE
 unfold mayR at hE hN
 dsimp only at hE hN
 obtain ⟨x,hbel⟩:=rec_box w ⟨p,b,e,l,h,f,q,a⟩
 obtain ⟨c0,c1,c2,c3,c4,c5,c6,c7⟩:=x.rec
 dsimp only at c0 c1 c2 c3 c4 c5 c6 c7
 have BEL:=Lh hbel
 have PI:=Lh (fun (n:Int) wx=>pispair_any n wx)
 have SI:=Lh (fun (n:Int) wx=>pissite_any n wx)
 clear x hbel
 by_cases kp:¬ (0≤p∧p < 3)
 ·have dp:=Lh (decide_eq_false kp)
  have hv:E=110:=hN (by rintro ⟨⟨m1,m2,m3,m4,m5,m6,m7,m8⟩,⟨m9,m10⟩,m11,m12⟩;exact kp ⟨m1,m2⟩)
  rw [hv]
  clear hE hN hv kp
  go_enter Tryz.func73,Tryz.ntmps73
  go_wp2_with fail
  refine ((PI).out p _).mono ?_
  rintro e' w1 ⟨rfl,rfl⟩
  rw [dp.out]
  go_wp2
  go_ret
  exact ⟨rfl,BEL.out⟩
 have kp:=Decidable.not_not.1 kp
 have dp:=Lh (decide_eq_true kp)
 by_cases kb:b=0
 ·subst kb
  have hv:E=110:=hN (by rintro ⟨⟨m1,m2,m3,m4,m5,m6,m7,m8⟩,⟨m9,m10⟩,m11,m12⟩;omega)
  rw [hv]
  clear hE hN hv kp
  go_enter Tryz.func73,Tryz.ntmps73
  go_wp2_with fail
  refine ((PI).out p _).mono ?_
  rintro e' w1 ⟨rfl,rfl⟩
  rw [dp.out]
  go_wp2
  go_ret
  exact ⟨rfl,BEL.out⟩
 have b0:(b == 0)=false:=by simpa using kb
 by_cases ke:e=0
 ·subst ke
  have hv:E=110:=hN (by rintro ⟨⟨m1,m2,m3,m4,m5,m6,m7,m8⟩,⟨m9,m10⟩,m11,m12⟩;omega)
  rw [hv]
  clear hE hN hv kp kb
  go_enter Tryz.func73,Tryz.ntmps73
  go_wp2_with fail
  refine ((PI).out p _).mono ?_
  rintro e' w1 ⟨rfl,rfl⟩
  rw [dp.out]
  go_wp2
  go_ret
  exact ⟨rfl,BEL.out⟩
 have e0:(e == 0)=false:=by simpa using ke
 by_cases kl:¬ (0≤l∧l≤1)
 ·have dl:=Lh (decide_eq_false kl)
  have hv:E=110:=hN (by rintro ⟨⟨m1,m2,m3,m4,m5,m6,m7,m8⟩,⟨m9,m10⟩,m11,m12⟩;exact kl ⟨m5,m6⟩)
  rw [hv]
  clear hE hN hv kp kb ke kl
  go_enter Tryz.func73,Tryz.ntmps73
  go_wp2_with fail
  refine ((PI).out p _).mono ?_
  rintro e' w1 ⟨rfl,rfl⟩
  rw [dp.out]
  go_wp2_with fail
  refine ((SI).out l _).mono ?_
  rintro e' w1 ⟨rfl,rfl⟩
  rw [dl.out]
  go_wp2
  go_ret
  exact ⟨rfl,BEL.out⟩
 have kl:=Decidable.not_not.1 kl
 have dl:=Lh (decide_eq_true kl)
 by_cases kf:¬ (0≤f∧f≤1)
 ·have df:=Lh (decide_eq_false kf)
  have hv:E=110:=hN (by rintro ⟨⟨m1,m2,m3,m4,m5,m6,m7,m8⟩,⟨m9,m10⟩,m11,m12⟩;exact kf ⟨m7,m8⟩)
  rw [hv]
  clear hE hN hv kp kb ke kl kf
  go_enter Tryz.func73,Tryz.ntmps73
  go_wp2_with fail
  refine ((PI).out p _).mono ?_
  rintro e' w1 ⟨rfl,rfl⟩
  rw [dp.out]
  go_wp2_with fail
  refine ((SI).out l _).mono ?_
  rintro e' w1 ⟨rfl,rfl⟩
  rw [dl.out]
  go_wp2_with fail
  refine ((SI).out f _).mono ?_
  rintro e' w1 ⟨rfl,rfl⟩
  rw [df.out]
  go_wp2
  go_ret
  exact ⟨rfl,BEL.out⟩
 have kf:=Decidable.not_not.1 kf
 have df:=Lh (decide_eq_true kf)
 by_cases kfl:f=l
 ·have fl0:(f != l)=false:=by simpa using kfl
  by_cases h1:h=1
  ·subst h1
   cases q with
   | false =>
    have hv:E=0:=hE ⟨⟨kp.1,kp.2,by omega,by omega,kl.1,kl.2,kf.1,kf.2⟩,⟨by omega,by omega⟩,.inl rfl,.inl rfl⟩
    rw [hv]
    clear hE hN hv kp kb ke kl kf kfl
    go_enter Tryz.func73,Tryz.ntmps73
    go_wp2_with fail
    refine ((PI).out p _).mono ?_
    rintro e' w1 ⟨rfl,rfl⟩
    rw [dp.out]
    go_wp2_with fail
    refine ((SI).out l _).mono ?_
    rintro e' w1 ⟨rfl,rfl⟩
    rw [dl.out]
    go_wp2_with fail
    refine ((SI).out f _).mono ?_
    rintro e' w1 ⟨rfl,rfl⟩
    rw [df.out]
    go_wp2
    go_ret
    exact ⟨rfl,BEL.out⟩
   | true =>
    have hv:E=110:=hN (by rintro ⟨⟨m1,m2,m3,m4,m5,m6,m7,m8⟩,⟨m9,m10⟩,m11,m12⟩;rcases m12 with m | m;cases m;exact m.2 kfl)
    rw [hv]
    clear hE hN hv kp kb ke kl kf kfl
    go_enter Tryz.func73,Tryz.ntmps73
    go_wp2_with fail
    refine ((PI).out p _).mono ?_
    rintro e' w1 ⟨rfl,rfl⟩
    rw [dp.out]
    go_wp2_with fail
    refine ((SI).out l _).mono ?_
    rintro e' w1 ⟨rfl,rfl⟩
    rw [dl.out]
    go_wp2_with fail
    refine ((SI).out f _).mono ?_
    rintro e' w1 ⟨rfl,rfl⟩
    rw [df.out]
    go_wp2
    go_ret
    exact ⟨rfl,BEL.out⟩
  by_cases h2:h=2
  ·subst h2
   clear h1
   cases q with
   | false =>
    have hv:E=0:=hE ⟨⟨kp.1,kp.2,by omega,by omega,kl.1,kl.2,kf.1,kf.2⟩,⟨by omega,by omega⟩,.inr kfl,.inl rfl⟩
    rw [hv]
    clear hE hN hv kp kb ke kl kf kfl
    go_enter Tryz.func73,Tryz.ntmps73
    go_wp2_with fail
    refine ((PI).out p _).mono ?_
    rintro e' w1 ⟨rfl,rfl⟩
    rw [dp.out]
    go_wp2_with fail
    refine ((SI).out l _).mono ?_
    rintro e' w1 ⟨rfl,rfl⟩
    rw [dl.out]
    go_wp2_with fail
    refine ((SI).out f _).mono ?_
    rintro e' w1 ⟨rfl,rfl⟩
    rw [df.out]
    go_wp2
    go_ret
    exact ⟨rfl,BEL.out⟩
   | true =>
    have hv:E=110:=hN (by rintro ⟨⟨m1,m2,m3,m4,m5,m6,m7,m8⟩,⟨m9,m10⟩,m11,m12⟩;rcases m12 with m | m;cases m;have:=m.1;omega)
    rw [hv]
    clear hE hN hv kp kb ke kl kf kfl
    go_enter Tryz.func73,Tryz.ntmps73
    go_wp2_with fail
    refine ((PI).out p _).mono ?_
    rintro e' w1 ⟨rfl,rfl⟩
    rw [dp.out]
    go_wp2_with fail
    refine ((SI).out l _).mono ?_
    rintro e' w1 ⟨rfl,rfl⟩
    rw [dl.out]
    go_wp2_with fail
    refine ((SI).out f _).mono ?_
    rintro e' w1 ⟨rfl,rfl⟩
    rw [df.out]
    go_wp2
    go_ret
    exact ⟨rfl,BEL.out⟩
  by_cases h3:h=3
  ·subst h3
   clear h1 h2
   cases q with
   | false =>
    have hv:E=0:=hE ⟨⟨kp.1,kp.2,by omega,by omega,kl.1,kl.2,kf.1,kf.2⟩,⟨by omega,by omega⟩,.inr kfl,.inl rfl⟩
    rw [hv]
    clear hE hN hv kp kb ke kl kf kfl
    go_enter Tryz.func73,Tryz.ntmps73
    go_wp2_with fail
    refine ((PI).out p _).mono ?_
    rintro e' w1 ⟨rfl,rfl⟩
    rw [dp.out]
    go_wp2_with fail
    refine ((SI).out l _).mono ?_
    rintro e' w1 ⟨rfl,rfl⟩
    rw [dl.out]
    go_wp2_with fail
    refine ((SI).out f _).mono ?_
    rintro e' w1 ⟨rfl,rfl⟩
    rw [df.out]
    go_wp2
    go_ret
    exact ⟨rfl,BEL.out⟩
   | true =>
    have hv:E=110:=hN (by rintro ⟨⟨m1,m2,m3,m4,m5,m6,m7,m8⟩,⟨m9,m10⟩,m11,m12⟩;rcases m12 with m | m;cases m;have:=m.1;omega)
    rw [hv]
    clear hE hN hv kp kb ke kl kf kfl
    go_enter Tryz.func73,Tryz.ntmps73
    go_wp2_with fail
    refine ((PI).out p _).mono ?_
    rintro e' w1 ⟨rfl,rfl⟩
    rw [dp.out]
    go_wp2_with fail
    refine ((SI).out l _).mono ?_
    rintro e' w1 ⟨rfl,rfl⟩
    rw [dl.out]
    go_wp2_with fail
    refine ((SI).out f _).mono ?_
    rintro e' w1 ⟨rfl,rfl⟩
    rw [df.out]
    go_wp2
    go_ret
    exact ⟨rfl,BEL.out⟩
  have q1:(h == 1)=false:=by simpa using h1
  have q2:(h == 2)=false:=by simpa using h2
  have q3:(h == 3)=false:=by simpa using h3
  have hv:E=110:=hN (by rintro ⟨⟨m1,m2,m3,m4,m5,m6,m7,m8⟩,⟨m9,m10⟩,m11,m12⟩;omega)
  rw [hv]
  clear hE hN hv kp kb ke kl kf kfl h1 h2 h3
  go_enter Tryz.func73,Tryz.ntmps73
  go_wp2_with fail
  refine ((PI).out p _).mono ?_
  rintro e' w1 ⟨rfl,rfl⟩
  rw [dp.out]
  go_wp2_with fail
  refine ((SI).out l _).mono ?_
  rintro e' w1 ⟨rfl,rfl⟩
  rw [dl.out]
  go_wp2_with fail
  refine ((SI).out f _).mono ?_
  rintro e' w1 ⟨rfl,rfl⟩
  rw [df.out]
  go_wp2
  go_ret
  exact ⟨rfl,BEL.out⟩
 ·have fl0:(f != l)=true:=by simpa using kfl
  by_cases h1:h=1
  ·subst h1
   cases q with
   | false =>
    have hv:E=0:=hE ⟨⟨kp.1,kp.2,by omega,by omega,kl.1,kl.2,kf.1,kf.2⟩,⟨by omega,by omega⟩,.inl rfl,.inl rfl⟩
    rw [hv]
    clear hE hN hv kp kb ke kl kf kfl
    go_enter Tryz.func73,Tryz.ntmps73
    go_wp2_with fail
    refine ((PI).out p _).mono ?_
    rintro e' w1 ⟨rfl,rfl⟩
    rw [dp.out]
    go_wp2_with fail
    refine ((SI).out l _).mono ?_
    rintro e' w1 ⟨rfl,rfl⟩
    rw [dl.out]
    go_wp2_with fail
    refine ((SI).out f _).mono ?_
    rintro e' w1 ⟨rfl,rfl⟩
    rw [df.out]
    go_wp2
    go_ret
    exact ⟨rfl,BEL.out⟩
   | true =>
    have hv:E=0:=hE ⟨⟨kp.1,kp.2,by omega,by omega,kl.1,kl.2,kf.1,kf.2⟩,⟨by omega,by omega⟩,.inl rfl,.inr ⟨rfl,kfl⟩⟩
    rw [hv]
    clear hE hN hv kp kb ke kl kf kfl
    go_enter Tryz.func73,Tryz.ntmps73
    go_wp2_with fail
    refine ((PI).out p _).mono ?_
    rintro e' w1 ⟨rfl,rfl⟩
    rw [dp.out]
    go_wp2_with fail
    refine ((SI).out l _).mono ?_
    rintro e' w1 ⟨rfl,rfl⟩
    rw [dl.out]
    go_wp2_with fail
    refine ((SI).out f _).mono ?_
    rintro e' w1 ⟨rfl,rfl⟩
    rw [df.out]
    go_wp2
    go_ret
    exact ⟨rfl,BEL.out⟩
  by_cases h2:h=2
  ·subst h2
   clear h1
   cases q with
   | false =>
    have hv:E=110:=hN (by rintro ⟨⟨m1,m2,m3,m4,m5,m6,m7,m8⟩,⟨m9,m10⟩,m11,m12⟩;rcases m11 with m | m;omega;exact kfl m)
    rw [hv]
    clear hE hN hv kp kb ke kl kf kfl
    go_enter Tryz.func73,Tryz.ntmps73
    go_wp2_with fail
    refine ((PI).out p _).mono ?_
    rintro e' w1 ⟨rfl,rfl⟩
    rw [dp.out]
    go_wp2_with fail
    refine ((SI).out l _).mono ?_
    rintro e' w1 ⟨rfl,rfl⟩
    rw [dl.out]
    go_wp2_with fail
    refine ((SI).out f _).mono ?_
    rintro e' w1 ⟨rfl,rfl⟩
    rw [df.out]
    go_wp2
    go_ret
    exact ⟨rfl,BEL.out⟩
   | true =>
    have hv:E=110:=hN (by rintro ⟨⟨m1,m2,m3,m4,m5,m6,m7,m8⟩,⟨m9,m10⟩,m11,m12⟩;rcases m12 with m | m;cases m;have:=m.1;omega)
    rw [hv]
    clear hE hN hv kp kb ke kl kf kfl
    go_enter Tryz.func73,Tryz.ntmps73
    go_wp2_with fail
    refine ((PI).out p _).mono ?_
    rintro e' w1 ⟨rfl,rfl⟩
    rw [dp.out]
    go_wp2_with fail
    refine ((SI).out l _).mono ?_
    rintro e' w1 ⟨rfl,rfl⟩
    rw [dl.out]
    go_wp2_with fail
    refine ((SI).out f _).mono ?_
    rintro e' w1 ⟨rfl,rfl⟩
    rw [df.out]
    go_wp2
    go_ret
    exact ⟨rfl,BEL.out⟩
  by_cases h3:h=3
  ·subst h3
   clear h1 h2
   cases q with
   | false =>
    have hv:E=110:=hN (by rintro ⟨⟨m1,m2,m3,m4,m5,m6,m7,m8⟩,⟨m9,m10⟩,m11,m12⟩;rcases m11 with m | m;omega;exact kfl m)
    rw [hv]
    clear hE hN hv kp kb ke kl kf kfl
    go_enter Tryz.func73,Tryz.ntmps73
    go_wp2_with fail
    refine ((PI).out p _).mono ?_
    rintro e' w1 ⟨rfl,rfl⟩
    rw [dp.out]
    go_wp2_with fail
    refine ((SI).out l _).mono ?_
    rintro e' w1 ⟨rfl,rfl⟩
    rw [dl.out]
    go_wp2_with fail
    refine ((SI).out f _).mono ?_
    rintro e' w1 ⟨rfl,rfl⟩
    rw [df.out]
    go_wp2
    go_ret
    exact ⟨rfl,BEL.out⟩
   | true =>
    have hv:E=110:=hN (by rintro ⟨⟨m1,m2,m3,m4,m5,m6,m7,m8⟩,⟨m9,m10⟩,m11,m12⟩;rcases m12 with m | m;cases m;have:=m.1;omega)
    rw [hv]
    clear hE hN hv kp kb ke kl kf kfl
    go_enter Tryz.func73,Tryz.ntmps73
    go_wp2_with fail
    refine ((PI).out p _).mono ?_
    rintro e' w1 ⟨rfl,rfl⟩
    rw [dp.out]
    go_wp2_with fail
    refine ((SI).out l _).mono ?_
    rintro e' w1 ⟨rfl,rfl⟩
    rw [dl.out]
    go_wp2_with fail
    refine ((SI).out f _).mono ?_
    rintro e' w1 ⟨rfl,rfl⟩
    rw [df.out]
    go_wp2
    go_ret
    exact ⟨rfl,BEL.out⟩
  have q1:(h == 1)=false:=by simpa using h1
  have q2:(h == 2)=false:=by simpa using h2
  have q3:(h == 3)=false:=by simpa using h3
  have hv:E=110:=hN (by rintro ⟨⟨m1,m2,m3,m4,m5,m6,m7,m8⟩,⟨m9,m10⟩,m11,m12⟩;omega)
  rw [hv]
  clear hE hN hv kp kb ke kl kf kfl h1 h2 h3
  go_enter Tryz.func73,Tryz.ntmps73
  go_wp2_with fail
  refine ((PI).out p _).mono ?_
  rintro e' w1 ⟨rfl,rfl⟩
  rw [dp.out]
  go_wp2_with fail
  refine ((SI).out l _).mono ?_
  rintro e' w1 ⟨rfl,rfl⟩
  rw [dl.out]
  go_wp2_with fail
  refine ((SI).out f _).mono ?_
  rintro e' w1 ⟨rfl,rfl⟩
  rw [df.out]
  go_wp2
  go_ret
  exact ⟨rfl,BEL.out⟩
end Go.Proofs.YtifgcfepbenpjaaGreat
