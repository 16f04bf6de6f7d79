/- Texts of layers 1 to 12, joined. -/
import Derived.Test.YtifgcfepbenpjaaGreatNa18
set_option maxRecDepth 100000
set_option maxHeartbeats 12800000
set_option linter.unusedVariables false
namespace Go.Proofs.YtifgcfepbenpjaaGreat
open Go.RowKit
theorem Blk.rec {w:World} {g:Nat} {t:TypeId} {r:Rc} (h:Blk w g t (recL r)):w.cell? ⟨g,0,none⟩=some (.int .i64 r.p)∧w.cell? ⟨g,1,none⟩=some (.int .u32 r.b)∧w.cell? ⟨g,2,none⟩=some (.int .u32 r.e)∧w.cell? ⟨g,3,none⟩=some (.int .i64 r.l)∧w.cell? ⟨g,4,none⟩=some (.int .u8 r.h)∧w.cell? ⟨g,5,none⟩=some (.int .i64 r.f)∧w.cell? ⟨g,6,none⟩=some (.bool r.q)∧w.cell? ⟨g,7,none⟩=some (.bool r.a) :=
 ⟨h.cell 0,h.cell 1,h.cell 2,h.cell 3,h.cell 4,h.cell 5,h.cell 6,h.cell 7⟩
theorem rec_box (w:World) (r:Rc):Blk (w.alloc (.cells #[.int .i64 r.p,.int .u32 r.b,.int .u32 r.e,.int .i64 r.l,.int .u8 r.h,.int .i64 r.f,.bool r.q,.bool r.a] 64)) w.heap.size 64 (recL r)∧Below w.heap.size w (w.alloc (.cells #[.int .i64 r.p,.int .u32 r.b,.int .u32 r.e,.int .i64 r.l,.int .u8 r.h,.int .i64 r.f,.bool r.q,.bool r.a] 64)):=⟨Blk.new w 64 (recL r),(Below.refl _ _).alloc (Nat.le_refl _) _⟩
theorem mayr_yes (r:Rc) (w:World) (hm:mayR r):Calls Tryz.prog 145 #[recV r] w fun e w'=>e=.returned (.bool true)∧Below w.heap.size w w':=by
 have hm0:=hm
 obtain ⟨⟨m1,m2,m3,m4,m5,m6,m7,m8⟩,⟨m9,m10⟩,m11,m12⟩:=hm0
 obtain ⟨p,b,e,l,h,f,q,a⟩:=r
 dsimp only at m1 m2 m3 m4 m5 m6 m7 m8 m9 m10 m11 m12
 have k1:¬ p < 0:=by omega
 have k2:¬ 3≤p:=by omega
 have k3:¬ b < 1:=by omega
 have k4:¬ e < 1:=by omega
 have k5:¬ l < 0:=by omega
 have k6:¬ 1 < l:=by omega
 have k7:¬ f < 0:=by omega
 have k8:¬ 1 < f:=by omega
 have k9:¬ h < 1:=by omega
 have k10:¬ 3 < h:=by omega
 obtain ⟨x,hbel⟩:=rec_box w ⟨p,b,e,l,h,f,q,a⟩
 obtain ⟨c0,c1,c2,c3,c4,c5,c6,c7⟩:=x.rec
 have BEL:=Lh hbel
 clear x hbel m1 m2 m3 m4 m5 m6 m7 m8 m9 m10
 by_cases hh:h=1
 ·subst hh
  rcases m12 with hq | ⟨_,hq⟩
  ·subst hq
   clear hm
   go_enter Tryz.func145,Tryz.ntmps145
   go_wp2
   go_ret
   exact ⟨rfl,BEL.out⟩
  ·cases q with
   | true =>
    have hq2:(f != l)=true:=bne_iff_ne.2 hq
    clear hm
    go_enter Tryz.func145,Tryz.ntmps145
    go_wp2
    go_ret
    exact ⟨rfl,BEL.out⟩
   | false =>
    clear hm
    go_enter Tryz.func145,Tryz.ntmps145
    go_wp2
    go_ret
    exact ⟨rfl,BEL.out⟩
 ·have hfl:f=l:=m11.resolve_left hh
  have hq:q=false:=m12.resolve_right fun k=>hh k.1
  subst hq
  subst hfl
  clear hm
  go_enter Tryz.func145,Tryz.ntmps145
  go_wp2
  go_ret
  exact ⟨rfl,BEL.out⟩
theorem mayr_no (r:Rc) (w:World) (hm:¬ mayR r):Calls Tryz.prog 145 #[recV r] w fun e w'=>e=.returned (.bool false)∧Below w.heap.size w w':=by
 obtain ⟨p,b,e,l,h,f,q,a⟩:=r
 unfold mayR at hm
 dsimp only at hm
 obtain ⟨x,hbel⟩:=rec_box w ⟨p,b,e,l,h,f,q,a⟩
 obtain ⟨c0,c1,c2,c3,c4,c5,c6,c7⟩:=x.rec
 have BEL:=Lh hbel
 clear x hbel
 by_cases k0:p < 0
 ·skip
  clear hm
  go_enter Tryz.func145,Tryz.ntmps145
  go_wp2
  go_ret
  exact ⟨rfl,BEL.out⟩
 by_cases k1:3≤p
 ·skip
  clear hm
  go_enter Tryz.func145,Tryz.ntmps145
  go_wp2
  go_ret
  exact ⟨rfl,BEL.out⟩
 by_cases k2:b < 1
 ·skip
  clear hm
  go_enter Tryz.func145,Tryz.ntmps145
  go_wp2
  go_ret
  exact ⟨rfl,BEL.out⟩
 by_cases k3:e < 1
 ·skip
  clear hm
  go_enter Tryz.func145,Tryz.ntmps145
  go_wp2
  go_ret
  exact ⟨rfl,BEL.out⟩
 by_cases k4:l < 0
 ·skip
  clear hm
  go_enter Tryz.func145,Tryz.ntmps145
  go_wp2
  go_ret
  exact ⟨rfl,BEL.out⟩
 by_cases k5:1 < l
 ·skip
  clear hm
  go_enter Tryz.func145,Tryz.ntmps145
  go_wp2
  go_ret
  exact ⟨rfl,BEL.out⟩
 by_cases k6:f < 0
 ·skip
  clear hm
  go_enter Tryz.func145,Tryz.ntmps145
  go_wp2
  go_ret
  exact ⟨rfl,BEL.out⟩
 by_cases k7:1 < f
 ·skip
  clear hm
  go_enter Tryz.func145,Tryz.ntmps145
  go_wp2
  go_ret
  exact ⟨rfl,BEL.out⟩
 by_cases k8:h < 1
 ·skip
  clear hm
  go_enter Tryz.func145,Tryz.ntmps145
  go_wp2
  go_ret
  exact ⟨rfl,BEL.out⟩
 by_cases k9:3 < h
 ·skip
  clear hm
  go_enter Tryz.func145,Tryz.ntmps145
  go_wp2
  go_ret
  exact ⟨rfl,BEL.out⟩
 by_cases hh:h=1
 ·subst hh
  by_cases hfl:f=l
  ·subst hfl
   cases q with
   | true =>
    clear hm
    go_enter Tryz.func145,Tryz.ntmps145
    go_wp2
    go_ret
    exact ⟨rfl,BEL.out⟩
   | false=>exact absurd ⟨⟨by omega,by omega,by omega,by omega,by omega,by omega,by omega,by omega⟩,⟨by omega,by omega⟩,.inl rfl,.inl rfl⟩ hm
  ·exact absurd ⟨⟨by omega,by omega,by omega,by omega,by omega,by omega,by omega,by omega⟩,⟨by omega,by omega⟩,.inl rfl,.inr ⟨rfl,hfl⟩⟩ hm
 ·by_cases hfl:f=l
  ·subst hfl
   cases q with
   | true =>
    clear hm
    go_enter Tryz.func145,Tryz.ntmps145
    go_wp2
    go_ret
    exact ⟨rfl,BEL.out⟩
   | false=>exact absurd ⟨⟨by omega,by omega,by omega,by omega,by omega,by omega,by omega,by omega⟩,⟨by omega,by omega⟩,.inr rfl,.inl rfl⟩ hm
  ·have hq2:(f != l)=true:=bne_iff_ne.2 hfl
   clear hm
   go_enter Tryz.func145,Tryz.ntmps145
   go_wp2
   go_ret
   exact ⟨rfl,BEL.out⟩
end Go.Proofs.YtifgcfepbenpjaaGreat
