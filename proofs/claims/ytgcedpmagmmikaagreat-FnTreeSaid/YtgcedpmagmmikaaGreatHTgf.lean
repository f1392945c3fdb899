import Derived.Test.YtgcedpmagmmikaaGreatHTks
import Derived.Test.YtgcedpmagmmikaaGreatHTge
import Derived.BigQuiet
namespace Go.Proofs.YtgcedpmagmmikaaGreat
open Go.RowKit Tryz
set_option linter.unusedVariables false
set_option linter.unusedSimpArgs false
set_option maxRecDepth 100000
variable {f nx:Nat} {met:Int->Bool} {ts:List TN}
theorem iz.up {w d w':World} {b:Nat} {a:Option Addr} {n c:Nat} {f:Option (T × Nat × (Int->Bool))} {e:Ending} (h:iz d b a n c f e w') (g:Fr (fun k=>k=b) w d):iz w b a n c f e w':=by
 obtain⟨l,m,o⟩:=h;refine⟨l,fun i p q r=>?_,g.trans o⟩;obtain⟨j,s,t,u⟩:=m i p q r;have:=g.size;exact⟨j,s,GM.keep i _ _ j (fun _ _=>rfl) (fun x v=>⟨by omega,v.2⟩) t,u⟩
theorem Bf {m:Int->Bool} (c:¬ nx=ts.length) (d:eT met (ts.getD nx dT).page=some m) (e:(ts.getD nx dT).leaf=true):gr ts (f+1) nx met=iA (ts.getD nx dT) (nx+1) m:=by
 unfold gr iA;rw[if_neg c,d];simp only[e,if_true];generalize ts.getD nx dT=a;by_cases b:4<a.keys.length∨a.vals.length≠a.keys.length∨a.over.length≠a.keys.length∨0<a.kids.length;·rw[if_pos b,if_pos b]
 ·rw[if_neg b,if_neg b];cases gH a.page (a.vals.zip a.over) m<;>rfl
theorem zU {m:Int->Bool} (c:¬ nx=ts.length) (d:eT met (ts.getD nx dT).page=some m) (e:(ts.getD nx dT).leaf=false):gr ts (f+1) nx met=gi ts f (ts.getD nx dT) (nx+1) m:=by
 unfold gr gi;rw[if_neg c,d];simp only[e,Ee,En];generalize ts.getD nx dT=a;by_cases b:a.kids.length<2∨4<a.kids.length∨a.keys.length+1≠a.kids.length∨0<a.vals.length∨0<a.over.length;·rw[if_pos b,if_pos b]
 ·rw[if_neg b,if_neg b];cases nh a.page a.keys (gr ts f) a.kids [] (nx+1) m with
  | none=>rfl
  | some g=>obtain⟨h,i,j⟩:=g;rfl
theorem Bg (a:eT met (ts.getD nx dT).page=none):gr ts (f+1) nx met=none:=by
 unfold gr;split;·rfl
 ·rw[a]
theorem Ce (h:nx=ts.length):gr ts (f+1) nx met=none:=by
 unfold gr;rw[if_pos h]
set_option maxHeartbeats 4000000 in
theorem my (ts:List TN) (ay:ts.length<=1000) (a:Option Addr) (n c A B g:Nat) (V:B<=g):∀ f,zT ts f a n c A B g
 | 0=>fun nx met b W a2 _ _=>by omega
 | f+1=>by
  have X:=my ts ay a n c A B g V f
  intro nx met b bB bC G C
  have az:=C.c0
  have aA:=C.c1
  have bD:=C.lt
  have M:=hidI G.1
  by_cases N:nx=ts.length
  ·have Y:gr ts (f+1) nx met=none:=Ce N
   have aB:=hidI Y
   have a3:nx=n:=by have:=M.out;omega
   rw[Y]
   clear Y N G C X
   subst a3
   have a4:((nx:Int) == (nx:Int))=true:=by simp
   go_enter func47,ntmps47
   go_upto_region 1 with fail
   go_quiet (fail)
   go_wp2_with fail
   refine bodyPost_ret (v:=.tuple #[.nilIface,.bool false]) (by simp[results,results47,go_sem]) rfl ?_
   exact⟨fun _=>rfl,(fun Z aa a5 O=>by cases O),⟨rfl,rfl,rfl,DU _,fun _ _ _=>rfl⟩⟩
  ·have a6:nx<n:=by have:=M.out;omega
   obtain⟨d,e,rfl,bE,h,i,j,k,l,m,o,on,p,q,r,s,H⟩:=G.at a6
   have aC:=hidI N
   have a7:=hidI X
   have a8:=hidI G
   have aD:=hidI C
   have aE:Hid (aP b A B h i j (ts.getD nx dT).keys∧aP b A B k l m (ts.getD nx dT).vals∧bf b A B o on p (ts.getD nx dT).over∧bf b A B q r s (ts.getD nx dT).kids):=⟨H.keys,H.vals,H.over,H.kids⟩
   obtain⟨I,P,aF,aG,aH,aI,_,_,_,_,_⟩:=H
   obtain⟨t,ab⟩:=Zn (ts.getD nx dT)
   have w:=hidI ab
   rw[ab] at aE I P
   obtain⟨x,ac⟩:=Zn t.leaf
   obtain⟨y,ad⟩:=Zn t.page
   have D:Hid (t.leaf=x∧t.page=y):=⟨ac,ad⟩
   rw[ac] at I
   rw[ad] at P
   have bF:=aO I
   have a4:((nx:Int) == (n:Int))=false:=by simp;omega
   obtain⟨Q,z⟩:=Zn (gr ts (f+1) nx met)
   have ae:=hidI z
   rw[z]
   obtain⟨J,a9⟩:=Zn b.heap.size
   have bG:n<=1000:=by have:=M.out;omega
   clear G C X N ab ac ad z
   go_enter func47,ntmps47
   go_upto_region 1 with fail
   go_quiet (fail)
   have a':Hid (Fr (fun ag=>ag=g) b (b.drewN nq)):=⟨rfl,rfl,rfl,DU _,fun _ _ _=>rfl⟩
   have ba:Hid (eN (b.drewN nq) g (some ⟨d,e,none⟩) n c nx met):=aD.out.keep rfl
   have bb:(b.drewN nq).heap.size=J:=a9
   have bc:(b.drewN nq).cell? ⟨d,e+nx*6,none⟩=some (.bool x):=I
   have bd:(b.drewN nq).cell? ⟨d,e+nx*6+1,none⟩=some (.int .i64 y):=P
   have be:(b.drewN nq).cell? ⟨d,e+nx*6+2,none⟩=some (.slice h i j):=aF
   have bg:(b.drewN nq).cell? ⟨d,e+nx*6+3,none⟩=some (.slice k l m):=aG
   have bh:(b.drewN nq).cell? ⟨d,e+nx*6+4,none⟩=some (.slice o on p):=aH
   have bi:(b.drewN nq).cell? ⟨d,e+nx*6+5,none⟩=some (.slice q r s):=aI
   have bj:(b.drewN nq).cell? ⟨g,0,none⟩=some (.slice (some ⟨d,e,none⟩) n c):=az
   have bk:(b.drewN nq).cell? ⟨g,1,none⟩=some (.int .i64 nx):=aA
   clear I P aF aG aH aI az aA aD
   generalize b.drewN nq=E at *
   have bH:d<E.heap.size:=by omega
   have bl:g<E.heap.size:=by omega
   go_upto_region 3 with fail
   go_cut [4] (fun bm aJ=>bm=.pointer (some ⟨J,0,none⟩)∧aJ.heap[J]?=some (.cells (Zs x y h i j k l m o on p q r s) 100)∧Below E.heap.size E aJ)
   case first =>
    go_region_held3 (fun u=>u.cell? ⟨g,0,none⟩=some (.slice (some ⟨d,e,none⟩) n c)∧u.cell? ⟨g,1,none⟩=some (.int .i64 nx)∧u.cell? ⟨d,e+nx*6,none⟩=some (.bool x)∧u.cell? ⟨d,e+nx*6+1,none⟩=some (.int .i64 y)∧u.cell? ⟨d,e+nx*6+2,none⟩=some (.slice h i j)∧u.cell? ⟨d,e+nx*6+3,none⟩=some (.slice k l m)∧u.cell? ⟨d,e+nx*6+4,none⟩=some (.slice o on p)∧u.cell? ⟨d,e+nx*6+5,none⟩=some (.slice q r s)) (go_keep) (fail)
    have bn:=Zb E (.cells (Zs x y h i j k l m o on p q r s) 100)
    have aK:=DS E (.cells (Zs x y h i j k l m o on p q r s) 100)
    rw[bb] at aK
    go_wp2_with fail
    go_meet
    exact⟨rfl,aK,bn.drew⟩
   case rest =>
    obtain⟨rfl,ah,ai⟩:=hcut
    have K:=ba.out.keep (ai.block g bl)
    have bo:=hidI (a'.out.trans (Fr.of_below ai))
    have bp:=Za ah
    have aj:=K.step (nx+1)
    have ak:=af wc g 1 (.int .i64 ((nx+1:Nat):Int))
    have aL:=hidI (bo.out.trans ak)
    have L:=(ak.block J bp (by omega)).trans ah
    have W:=K.c1
    have bq:=K.thaw
    have br:=K.lt
    have bs:((nx+1:Nat):Int)=(nx:Int)+1:=by omega
    rw[bs] at aj aL L
    clear bc bd be bg bh bi bj bk ai ak ah K
    go_upto_region 5 with fail
    generalize wc.setCell ⟨g,1,none⟩ (.int .i64 ((nx:Int)+1))=bt at *
    obtain⟨aM,aN,aQ,aR,aS,aT⟩:=aq L
    have bu:=Za L
    have aU:=ux bt g (some ⟨d,e,none⟩) n c (nx+1) met y aj
    clear W bq br
    go_wp2_with fail
    refine aU.mono ?_
    rintro bv al ⟨bw,rfl,am,an,ao⟩
    have ap:=hidI (aL.out.trans ao)
    have R:=(ao.block J bu (by omega)).trans L
    clear aU aM aN aQ aR aS aT aj ao L
    cases bw
    ·have aB:Hid (Q=none):=by
      show _=_;rw[<-ae.out];refine Bg ?_;rw[w.out,D.out.2];exact an rfl
     clear am an R;(go_wp2_with fail);refine bodyPost_ret (v:=.tuple #[.nilIface,.bool false]) (by simp[results,results47,go_sem]) rfl ?_;exact⟨fun _=>rfl,(fun Z aa a5 O=>by rw[aB.out] at O;cases O),ap.out⟩
    ·obtain⟨S,aV,ar⟩:=am rfl;clear am an;obtain⟨aM,aN,aQ,aR,aS,aT⟩:=aq R;have bI:=Za R;have F:eS A B b al:=fun ag W a2=>ap.out.block ag (by omega) (by omega);have aW:=a8.out.keep F;obtain⟨aX,aY,aZ,a0⟩:=aE.out;have au:=aX.keep F;have av:=aY.keep F;have aw:=aZ.keep F;have ax:=a0.keep F;clear aX aY aZ a0;cases x
     focus
       have z:Q=gi ts f t (nx+1) S:=(by rw[<-ae.out,<-w.out];exact zU aC.out (by rw[w.out,D.out.2];exact aV) (by rw[w.out];exact D.out.1));have T:=qH ts ay f (some ⟨d,e,none⟩) n c A B g a7.out t h i j k l m o on p q r s false al (nx+1) S V (by have:=M.out;omega) (by omega) aW ar au av aw ax
     rotate_left
     focus
       have z:Q=iA t (nx+1) S:=(by rw[<-ae.out,<-w.out];exact Bf aC.out (by rw[w.out,D.out.2];exact aV) (by rw[w.out];exact D.out.1));have T:=sF t h i j k l m o on p q r s true al g (some ⟨d,e,none⟩) n c (nx+1) S A B V ar au av aw ax
     rotate_left
     all_goals
       rw[<-z,D.out.2] at T;clear z aW au av aw ax F R ar;(go_wp2_with fail);refine T.mono ?_;intro bv bJ a1;have U:=a1.up ap.out;clear a1 T;cases Q with
       |none=>obtain rfl:=U.1 rfl;(go_wp2_with fail);refine bodyPost_ret (v:=.tuple #[.nilIface,.bool false]) (by simp[results,results47,go_sem]) rfl ?_;exact U
       |some bx=>obtain⟨Z,aa,bz⟩:=bx;obtain⟨bA,rfl,_⟩:=U.2.1 Z aa bz rfl;(go_wp2_with fail);refine bodyPost_ret (v:=.tuple #[bA,.bool true]) (by simp[results,results47,go_sem]) rfl ?_;exact U
end Go.Proofs.YtgcedpmagmmikaaGreat
