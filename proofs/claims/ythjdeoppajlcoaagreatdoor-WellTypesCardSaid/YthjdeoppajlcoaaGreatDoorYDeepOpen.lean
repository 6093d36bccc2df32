/- A program (api.Prog) that came in by value, opened to its depth, at this program's types. -/
import Derived.Test.YthjdeoppajlcoaaGreatDoorYT0

namespace Go.Proofs.YthjdeoppajlcoaaGreatDoor
set_option linter.unusedVariables false
open Go.ChangeShapes Go.WideShapes Go.ChangeAt Go.RowKit Go.Joins Go.Deep
section
variable {H : Type} {enc : TypeId × Value → H}
theorem gN:Opens enc Tryz.prog 40 (fun W cs Z=>∃ v,cs=[v]∧lm W v Z):=AX Tryz.underlying40 Tryz.underlying3 (by kernel_rfl) (by kernel_rfl)
theorem FZ:Opens enc Tryz.prog 64 OpQ:=by
 intro W fuel cs y h hlt hfit
 have hcl:=gL Tryz.underlying64 h
 rw[show Tryz.prog.cellsOf 64=8 by kernel_rfl]at hcl
 obtain⟨K,e0,r0⟩:=aS Tryz.underlying64 h hlt hfit 0 rfl (o:=0) (k:=1) rfl (by kernel_rfl) rfl (d9 Tryz.underlying3)
 obtain⟨A,e1,r1⟩:=aS Tryz.underlying64 h hlt hfit 1 rfl (o:=1) (k:=1) rfl (by kernel_rfl) rfl (d9 Tryz.underlying3)
 obtain⟨B,e2,r2⟩:=aS Tryz.underlying64 h hlt hfit 2 rfl (o:=2) (k:=1) rfl (by kernel_rfl) rfl (d9 Tryz.underlying3)
 obtain⟨C,e3,r3⟩:=aS Tryz.underlying64 h hlt hfit 3 rfl (o:=3) (k:=1) rfl (by kernel_rfl) rfl (d9 Tryz.underlying3)
 obtain⟨N,e4,r4⟩:=aS Tryz.underlying64 h hlt hfit 4 rfl (o:=4) (k:=1) rfl (by kernel_rfl) rfl (d9 Tryz.underlying2)
 obtain⟨S,e5,r5⟩:=aS Tryz.underlying64 h hlt hfit 5 rfl (o:=5) (k:=1) rfl (by kernel_rfl) rfl (AV Tryz.underlying9)
 obtain⟨L,l,e6,r6⟩:=aS Tryz.underlying64 h hlt hfit 6 rfl (o:=6) (k:=1) rfl (by kernel_rfl) rfl gN
 obtain⟨T,e7⟩:=aS Tryz.underlying64 h hlt hfit 7 rfl (o:=7) (k:=1) rfl (by kernel_rfl) rfl (AZ Tryz.underlying4)
 match cs,hcl with
 | [c0,c1,c2,c3,c4,c5,c6,c7],_=>
  simp only[List.drop_zero,List.drop_succ_cons,List.take_succ_cons,List.take_zero,List.cons.injEq,and_true]at e0 e1 e2 e3 e4 e5 e6 e7
  subst e0 e1 e2 e3 e4 e5 e6 e7
  exact⟨⟨K,A,B,C,N,S,L,T⟩,c6,rfl,r0,r1,r2,r3,r4,r5,r6⟩
theorem Dp:Opens enc Tryz.prog 60 Cf:=by
 intro W fuel cs y h hlt hfit
 have hcl:=gL Tryz.underlying60 h
 rw[show Tryz.prog.cellsOf 60=2 by kernel_rfl]at hcl
 obtain⟨L,l,e0,r0⟩:=aS Tryz.underlying60 h hlt hfit 0 rfl (o:=0) (k:=1) rfl (by kernel_rfl) rfl gN
 obtain⟨r,e1,r1⟩:=aS Tryz.underlying60 h hlt hfit 1 rfl (o:=1) (k:=1) rfl (by kernel_rfl) rfl (d9 Tryz.underlying3)
 match cs,hcl with
 | [c0,c1],_=>
  simp only[List.drop_zero,List.drop_succ_cons,List.take_succ_cons,List.take_zero,List.cons.injEq,and_true]at e0 e1
  subst e0 e1
  exact⟨⟨L,r⟩,c0,rfl,r0,r1⟩
theorem xJ:Opens enc Tryz.prog 62 jy:=by
 intro W fuel cs y h hlt hfit
 have hcl:=gL Tryz.underlying62 h
 rw[show Tryz.prog.cellsOf 62=2 by kernel_rfl]at hcl
 obtain⟨L,l,e0,r0⟩:=aS Tryz.underlying62 h hlt hfit 0 rfl (o:=0) (k:=1) rfl (by kernel_rfl) rfl gN
 obtain⟨M,m,e1,r1⟩:=aS Tryz.underlying62 h hlt hfit 1 rfl (o:=1) (k:=1) rfl (by kernel_rfl) rfl gN
 match cs,hcl with
 | [c0,c1],_=>
  simp only[List.drop_zero,List.drop_succ_cons,List.take_succ_cons,List.take_zero,List.cons.injEq,and_true]at e0 e1
  subst e0 e1
  exact⟨⟨L,M⟩,c0,c1,rfl,r0,r1⟩
theorem Dq:Opens enc Tryz.prog 49 Fj:=by
 intro W fuel cs y h hlt hfit
 have hcl:=gL Tryz.underlying49 h
 rw[show Tryz.prog.cellsOf 49=6 by kernel_rfl]at hcl
 obtain⟨K,e0,r0⟩:=aS Tryz.underlying49 h hlt hfit 0 rfl (o:=0) (k:=1) rfl (by kernel_rfl) rfl (d9 Tryz.underlying3)
 obtain⟨A,e1,r1⟩:=aS Tryz.underlying49 h hlt hfit 1 rfl (o:=1) (k:=1) rfl (by kernel_rfl) rfl (d9 Tryz.underlying3)
 obtain⟨B,e2,r2⟩:=aS Tryz.underlying49 h hlt hfit 2 rfl (o:=2) (k:=1) rfl (by kernel_rfl) rfl (d9 Tryz.underlying3)
 obtain⟨C,e3,r3⟩:=aS Tryz.underlying49 h hlt hfit 3 rfl (o:=3) (k:=1) rfl (by kernel_rfl) rfl (d9 Tryz.underlying3)
 obtain⟨L,l,e4,r4⟩:=aS Tryz.underlying49 h hlt hfit 4 rfl (o:=4) (k:=1) rfl (by kernel_rfl) rfl gN
 obtain⟨M,m,e5,r5⟩:=aS Tryz.underlying49 h hlt hfit 5 rfl (o:=5) (k:=1) rfl (by kernel_rfl) rfl gN
 match cs,hcl with
 | [c0,c1,c2,c3,c4,c5],_=>
  simp only[List.drop_zero,List.drop_succ_cons,List.take_succ_cons,List.take_zero,List.cons.injEq,and_true]at e0 e1 e2 e3 e4 e5
  subst e0 e1 e2 e3 e4 e5
  exact⟨⟨K,A,B,C,L,M⟩,c4,c5,rfl,r0,r1,r2,r3,r4,r5⟩
theorem xK:Opens enc Tryz.prog 51 aM:=by
 intro W fuel cs y h hlt hfit
 have hcl:=gL Tryz.underlying51 h
 rw[show Tryz.prog.cellsOf 51=8 by kernel_rfl]at hcl
 obtain⟨L,l,e0,r0⟩:=aS Tryz.underlying51 h hlt hfit 0 rfl (o:=0) (k:=1) rfl (by kernel_rfl) rfl gN
 obtain⟨O,o,e1,r1⟩:=aS Tryz.underlying51 h hlt hfit 1 rfl (o:=1) (k:=1) rfl (by kernel_rfl) rfl (kU Tryz.underlying47 (k:=8) (by kernel_rfl) (by decide) (of_decide_eq_true (by kernel_rfl)) FZ)
 obtain⟨E,e2⟩:=aS Tryz.underlying51 h hlt hfit 2 rfl (o:=2) (k:=6) rfl (by kernel_rfl) rfl Dq
 match cs,hcl with
 | [c0,c1,c2,c3,c4,c5,c6,c7],_=>
  simp only[List.drop_zero,List.drop_succ_cons,List.take_succ_cons,List.take_zero,List.cons.injEq,and_true]at e0 e1 e2
  subst e0 e1
  exact⟨⟨L,O,E⟩,c0,c1,_,rfl,r0,r1,e2⟩
theorem AY:Opens enc Tryz.prog 36 bO:=by
 intro W fuel cs y h hlt hfit
 have hcl:=gL Tryz.underlying36 h
 rw[show Tryz.prog.cellsOf 36=2 by kernel_rfl]at hcl
 obtain⟨r,e0,r0⟩:=aS Tryz.underlying36 h hlt hfit 0 rfl (o:=0) (k:=1) rfl (by kernel_rfl) rfl (d9 Tryz.underlying3)
 obtain⟨B,b,e1,r1⟩:=aS Tryz.underlying36 h hlt hfit 1 rfl (o:=1) (k:=1) rfl (by kernel_rfl) rfl (kU Tryz.underlying34 (k:=8) (by kernel_rfl) (by decide) (of_decide_eq_true (by kernel_rfl)) xK)
 match cs,hcl with
 | [c0,c1],_=>
  simp only[List.drop_zero,List.drop_succ_cons,List.take_succ_cons,List.take_zero,List.cons.injEq,and_true]at e0 e1
  subst e0 e1
  exact⟨⟨r,B⟩,c1,rfl,r0,r1⟩
end
end Go.Proofs.YthjdeoppajlcoaaGreatDoor
