/- Texts of layers 1 to 12, joined. -/
import Derived.Test.YtifgcfepbenpjaaGreatNb28
import Derived.Deep.RegionWith
import Derived.Deep.QuietTactic
import Derived.BigQuiet
set_option maxRecDepth 100000
set_option maxHeartbeats 12800000
set_option linter.unusedVariables false
namespace Go.Proofs.YtifgcfepbenpjaaGreat
open Go.RowKit
theorem method_note (g n : Int) (A : Option Addr) (k c : Nat) (w : World) : (method 415 219 (.agg #[.int .u64 g, .int .i64 n, .slice A k c]) "catamaran/journal.text").run Tryz.prog w = .ok (230, .agg #[.int .u64 g, .int .i64 n, .slice A k c]) w := by kernel_rfl
theorem method_fault (E : Int) (w : World) : (method 415 220 (.int .i64 E) "catamaran/journal.text").run Tryz.prog w = .ok (231, .int .i64 E) w := by kernel_rfl
theorem readof_any (b o c:Nat) (t:Txt) (w:World) (hT:Arg w .u8 (some ⟨b,o,none⟩) 32 c t) (hby:∀ z ∈ t,isByte z) :
  Calls Tryz.prog 160 #[.slice (some ⟨b,o,none⟩) 32 c] w fun e w'=>((rdOk t∧e=.returned (noteV (val (t.take 8)) (t.getD 9 0) (some ⟨b,o + 12,none⟩) (rdM t) (rdM t)))∨(¬ rdOk t∧e=.returned (faultV 8)))∧Below w.heap.size w w':=by
 have ht:=hT.len
 have hcc:=hT.cap
 have hmax:=hT.max
 unfold maxLen at hmax
 have hnm:=nums5_eq t ht
 have hG:=gen_of ht hby
 have hN:=byte_getD hby 9
 have hM:=byte_getD hby 10
 unfold isByte at hN hM
 have hmle:=rdM_le t
 have hmm:(rdM t:Int)=min (t.getD 10 0) 20:=by unfold rdM;omega
 have hlen:=rdTx_length ht
 have HPC:=Lh (show ∀ wx,Below w.heap.size w wx→Arg wx .u8 (some ⟨b,o + 12,none⟩) (rdM t) (rdM t) (rdTx t) from fun wx hx=>by
  have h2:=(hT.below hx).piece (lo:=12) (hi:=12 + rdM t) (by omega) (by omega)
  rw [show 12 + rdM t - 12=rdM t by omega] at h2
  exact ⟨h2.seq,hlen,Nat.le_refl _,by unfold maxLen;omega⟩)
 have HPY:=Lh (rdTx_byte hby)
 have HT:=Lh hT
 have HF:=Lh ((hT.first (m:=12) (by omega)))
 have HBY:=Lh hby
 have HBF:=Lh (show ∀ z ∈ t.take 12,isByte z from fun z hz=>hby z (List.mem_of_mem_take hz))
 have H12:=Lh (show (t.take 12).length=12 by rw [List.length_take];omega)
 obtain ⟨gv,hgv⟩:∃ x,x=val (t.take 8):=⟨_,rfl⟩
 obtain ⟨nv,hnv⟩:∃ x,x=t.getD 9 0:=⟨_,rfl⟩
 obtain ⟨mv,hmv⟩:∃ x,x=t.getD 10 0:=⟨_,rfl⟩
 obtain ⟨x1,hx1⟩:∃ x,x=t.getD 8 0:=⟨_,rfl⟩
 obtain ⟨x4,hx4⟩:∃ x,x=t.getD 11 0:=⟨_,rfl⟩
 have HOK:=Lh (show rdOk t↔(1≤mv∧jT gv nv (rdTx t)=t) by unfold rdOk;rw [← hgv,← hnv,← hmv])
 rw [← hgv,← hnv,← hmv,← hx1,← hx4] at hnm
 rw [← hgv] at hG ⊢
 rw [← hnv] at hN ⊢
 rw [← hmv] at hM hmm
 have HNM:=Lh (show numsTo (t.take 12) sz5 5=[gv,x1,nv,mv,x4] from hnm)
 obtain ⟨m,hm⟩:∃ m,m=rdM t:=⟨_,rfl⟩
 obtain ⟨T,hTT⟩:∃ T,T=rdTx t:=⟨_,rfl⟩
 rw [← hm] at HPC hmle hmm hlen ⊢
 rw [← hTT] at HPC HPY HOK hlen
 have HG:=Lh hG
 have HN:=Lh hN
 have e2:IntKind.i64.wrap nv=nv:=wrap_i64_byte ⟨hN.1,hN.2⟩
 have HLT:=Lh hlen
 have h12c:(12:Int)≤(c:Int):=by omega
 have hmc:(12:Int) + (m:Int)≤(c:Int):=by omega
 have e5:IntKind.u64.wrap (12 + (m:Int))=12 + (m:Int):=wraps_u64 _ (by omega) (by omega)
 have hmin:min mv 20=(m:Int):=hmm.symm
 clear hT hby hgv hnv hmv hx1 hx4 hnm hG hm hTT ht hlen
 rcases (show (mv=(m:Int)∧0 < m)∨(mv=0∧m=0)∨(m=20∧20 < mv) by omega) with ⟨hcase,hpos⟩ | ⟨hcase,hm0⟩ | ⟨hcase,hbig⟩
 ·subst hcase
  have NO:=Lh (fun wx=>noteof_yes gv nv (some ⟨b,o + 12,none⟩) m m wx (by omega) (by omega) ⟨HN.out.1,by have:=HN.out.2;omega⟩)
  have MN:=method_note gv nv (some ⟨b,o + 12,none⟩) m m
  clear hmin hmm
  go_enter Tryz.func160,Tryz.ntmps160
  go_upto_region 1 with fail
  have hcur:Below w.heap.size w w.drew:=below_drewN (Below.refl _ _) 1
  go_region_with ((first
   | (go_at_call 188;with_reducible refine (jsizes_any _).mono ?_;rintro e wS ⟨gS,rfl,hAS,hbS⟩;have hcur:=hcur.trans (hbS.mono hcur.size))
   | (go_at_call 123;with_reducible refine (read_ok (some ⟨b,o,none⟩) (some ⟨gS,0,none⟩) 12 c 5 5 (t.take 12) sz5 _ hAS.seq rfl okB_sz5 ((HF.out.below hcur).seq) H12.out at_sz5.symm (by omega) HF.out.max HBF.out).mono ?_;intro e w2 hout;have hM:=hcur.size;obtain ⟨A2,c2,rfl,hown,hb⟩:=hout.len (zs':=[gv,x1,nv,(m:Int),x4]) (n:=5) HNM.out rfl;have hcur:=hcur.trans (hb.mono hcur.size))))
  all_goals (
   obtain ⟨g,rfl,hg,q0,_,_⟩:=owns_int_at (j:=0) hown (by decide)
   obtain ⟨_,eg,_,q2,_,_⟩:=owns_int_at (j:=2) hown (by decide)
   injection eg with eg;injection eg with eg;subst eg
   obtain ⟨_,eg,_,q3,_,_⟩:=owns_int_at (j:=3) hown (by decide)
   injection eg with eg;injection eg with eg;subst eg
   simp only [List.getD_cons_zero,List.getD_cons_succ] at q0 q2 q3
   have B:=Lh hcur
   clear hown hb hcur hout hAS hbS
   go_upto_region 3 with fail
   clear q3
   go_quiet ((first | (go_at_call 179;exact Calls.quiet_of_same (NO.out _))))
   go_wp2_with fail
   obtain ⟨w3,hw3⟩:∃ x:World,x=w2.drewN nq:=⟨_,rfl⟩
   have B3:=Lh (show Below w.heap.size w w3 by rw [hw3];exact below_drewN B.out nq)
   rw [← hw3]
   clear hw3 B MN
   refine (ntext_any gv nv HG.out ⟨HN.out.1,by have:=HN.out.2;omega⟩ (some ⟨b,o + 12,none⟩) m m T w3 (HPC.out _ B3.out) (by omega)).mono ?_
   rintro e w4 ⟨gm,rfl,hown,hb4⟩
   have B4:=Lh (B3.out.trans (hb4.mono B3.out.size))
   have E:=equal_any (some ⟨gm,0,none⟩) 32 32 (jT gv nv T) (some ⟨b,o,none⟩) 32 c t w4 (Arg.own hown) (HT.out.below B4.out) (jT_byte _ _ HPY.out) HBY.out
   clear hown hb4 B3
   by_cases hq:jT gv nv T=t
   ·rw [decide_eq_true hq] at E
    have E:=Lh E
    have HQ:=Lh (HOK.out.2 ⟨by omega,hq⟩)
    clear hq
    go_wp2_with fail
    refine E.out.mono ?_
    rintro e w6 ⟨rfl,rfl⟩
    go_wp2
    go_ret
    exact ⟨.inl ⟨HQ.out,rfl⟩,B4.out⟩
   ·rw [decide_eq_false hq] at E
    have E:=Lh E
    have HQ:=Lh (show ¬ rdOk t from fun h=>hq (HOK.out.1 h).2)
    clear hq
    go_wp2_with fail
    refine E.out.mono ?_
    rintro e w6 ⟨rfl,rfl⟩
    go_wp2
    go_ret
    exact ⟨.inr ⟨HQ.out,rfl⟩,B4.out⟩)
 ·subst hcase
  subst hm0
  obtain rfl:T=[]:=List.eq_nil_of_length_eq_zero HLT.out
  have NO:=Lh (fun wx=>noteof_no gv nv (some ⟨b,o,none⟩) 0 0 [] wx rfl (show jtE nv []≠0 by unfold jtE;rw [if_neg (by decide)];decide))
  rw [show jtE nv []=4 from if_neg (by decide)] at NO
  have MN:=method_fault 4
  have HQ:=Lh (show ¬ rdOk t from fun h=>absurd (HOK.out.1 h).1 (by decide))
  clear hmin hmm
  go_enter Tryz.func160,Tryz.ntmps160
  go_upto_region 1 with fail
  have hcur:Below w.heap.size w w.drew:=below_drewN (Below.refl _ _) 1
  go_region_with ((first
   | (go_at_call 188;with_reducible refine (jsizes_any _).mono ?_;rintro e wS ⟨gS,rfl,hAS,hbS⟩;have hcur:=hcur.trans (hbS.mono hcur.size))
   | (go_at_call 123;with_reducible refine (read_ok (some ⟨b,o,none⟩) (some ⟨gS,0,none⟩) 12 c 5 5 (t.take 12) sz5 _ hAS.seq rfl okB_sz5 ((HF.out.below hcur).seq) H12.out at_sz5.symm (by omega) HF.out.max HBF.out).mono ?_;intro e w2 hout;have hM:=hcur.size;obtain ⟨A2,c2,rfl,hown,hb⟩:=hout.len (zs':=[gv,x1,nv,0,x4]) (n:=5) HNM.out rfl;have hcur:=hcur.trans (hb.mono hcur.size))))
  all_goals (
   obtain ⟨g,rfl,hg,q0,_,_⟩:=owns_int_at (j:=0) hown (by decide)
   obtain ⟨_,eg,_,q2,_,_⟩:=owns_int_at (j:=2) hown (by decide)
   injection eg with eg;injection eg with eg;subst eg
   obtain ⟨_,eg,_,q3,_,_⟩:=owns_int_at (j:=3) hown (by decide)
   injection eg with eg;injection eg with eg;subst eg
   simp only [List.getD_cons_zero,List.getD_cons_succ] at q0 q2 q3
   have B:=Lh hcur
   clear hown hb hcur hout hAS hbS
   go_upto_region 3 with fail
   clear q3
   go_quiet ((first | (go_at_call 179;exact Calls.quiet_of_same (NO.out _))))
   go_wp2_with fail
   obtain ⟨w3,hw3⟩:∃ x:World,x=w2.drewN nq:=⟨_,rfl⟩
   have B3:=Lh (show Below w.heap.size w w3 by rw [hw3];exact below_drewN B.out nq)
   rw [← hw3]
   clear hw3 B MN
   refine (ftext_any 4 w3).mono ?_
   rintro e w4 ⟨rfl,rfl⟩
   have E:=equal_any none 0 0 [] (some ⟨b,o,none⟩) 32 c t w4 (Arg.nil _ _) (HT.out.below B3.out) (fun z hz=>by cases hz) HBY.out
   rw [decide_eq_false (fun e=>by have:=HT.out.len;rw [← e] at this;cases this)] at E
   have E:=Lh E
   go_wp2_with fail
   refine E.out.mono ?_
   rintro e w6 ⟨rfl,rfl⟩
   go_wp2
   go_ret
   exact ⟨.inr ⟨HQ.out,rfl⟩,B3.out⟩)
 ·subst hcase
  have NO:=Lh (fun wx=>noteof_yes gv nv (some ⟨b,o + 12,none⟩) 20 20 wx (by omega) (by omega) ⟨HN.out.1,by have:=HN.out.2;omega⟩)
  have MN:=method_note gv nv (some ⟨b,o + 12,none⟩) 20 20
  clear hmin hmm
  go_enter Tryz.func160,Tryz.ntmps160
  go_upto_region 1 with fail
  have hcur:Below w.heap.size w w.drew:=below_drewN (Below.refl _ _) 1
  go_region_with ((first
   | (go_at_call 188;with_reducible refine (jsizes_any _).mono ?_;rintro e wS ⟨gS,rfl,hAS,hbS⟩;have hcur:=hcur.trans (hbS.mono hcur.size))
   | (go_at_call 123;with_reducible refine (read_ok (some ⟨b,o,none⟩) (some ⟨gS,0,none⟩) 12 c 5 5 (t.take 12) sz5 _ hAS.seq rfl okB_sz5 ((HF.out.below hcur).seq) H12.out at_sz5.symm (by omega) HF.out.max HBF.out).mono ?_;intro e w2 hout;have hM:=hcur.size;obtain ⟨A2,c2,rfl,hown,hb⟩:=hout.len (zs':=[gv,x1,nv,mv,x4]) (n:=5) HNM.out rfl;have hcur:=hcur.trans (hb.mono hcur.size))))
  all_goals (
   obtain ⟨g,rfl,hg,q0,_,_⟩:=owns_int_at (j:=0) hown (by decide)
   obtain ⟨_,eg,_,q2,_,_⟩:=owns_int_at (j:=2) hown (by decide)
   injection eg with eg;injection eg with eg;subst eg
   obtain ⟨_,eg,_,q3,_,_⟩:=owns_int_at (j:=3) hown (by decide)
   injection eg with eg;injection eg with eg;subst eg
   simp only [List.getD_cons_zero,List.getD_cons_succ] at q0 q2 q3
   have B:=Lh hcur
   clear hown hb hcur hout hAS hbS
   go_upto_region 3 with fail
   clear q3
   go_quiet ((first | (go_at_call 179;exact Calls.quiet_of_same (NO.out _))))
   go_wp2_with fail
   obtain ⟨w3,hw3⟩:∃ x:World,x=w2.drewN nq:=⟨_,rfl⟩
   have B3:=Lh (show Below w.heap.size w w3 by rw [hw3];exact below_drewN B.out nq)
   rw [← hw3]
   clear hw3 B MN
   refine (ntext_any gv nv HG.out ⟨HN.out.1,by have:=HN.out.2;omega⟩ (some ⟨b,o + 12,none⟩) 20 20 T w3 (HPC.out _ B3.out) (by omega)).mono ?_
   rintro e w4 ⟨gm,rfl,hown,hb4⟩
   have B4:=Lh (B3.out.trans (hb4.mono B3.out.size))
   have E:=equal_any (some ⟨gm,0,none⟩) 32 32 (jT gv nv T) (some ⟨b,o,none⟩) 32 c t w4 (Arg.own hown) (HT.out.below B4.out) (jT_byte _ _ HPY.out) HBY.out
   clear hown hb4 B3
   by_cases hq:jT gv nv T=t
   ·rw [decide_eq_true hq] at E
    have E:=Lh E
    have HQ:=Lh (HOK.out.2 ⟨by omega,hq⟩)
    clear hq
    go_wp2_with fail
    refine E.out.mono ?_
    rintro e w6 ⟨rfl,rfl⟩
    go_wp2
    go_ret
    exact ⟨.inl ⟨HQ.out,rfl⟩,B4.out⟩
   ·rw [decide_eq_false hq] at E
    have E:=Lh E
    have HQ:=Lh (show ¬ rdOk t from fun h=>hq (HOK.out.1 h).2)
    clear hq
    go_wp2_with fail
    refine E.out.mono ?_
    rintro e w6 ⟨rfl,rfl⟩
    go_wp2
    go_ret
    exact ⟨.inr ⟨HQ.out,rfl⟩,B4.out⟩)
end Go.Proofs.YtifgcfepbenpjaaGreat
