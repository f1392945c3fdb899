import Derived.Test.YtbfggcekifaldaaGreatGAB
import Derived.Test.YtbfggcekifaldaaGreatHTn
import Derived.Test.YtbfggcekifaldaaGreatTks
import Derived.Test.YtbfggcekifaldaaGreatTlg
namespace Go.Proofs.YtbfggcekifaldaaGreat
open Go.RowKit
set_option linter.unusedVariables false
set_option linter.unusedSimpArgs false
set_option maxRecDepth 100000
set_option maxHeartbeats 2000000 in
theorem l3Deep_any (ts:List TN) (hm:ts.length<=1000) (a:Option Addr) (n c A B:Nat) (w:World) (hB:B<=w.heap.size) (hT:NodesAt w A B a n c ts) :
  Calls Tryz.prog 16 #[.agg #[.slice a n c]] w fun e w'=>∃ ka kn kc va vn vc oa on oc ya yc css,e=.returned (.tuple #[.agg #[.bool (rd ts (ts.length+1) 0).1.leaf,.int .i64 (rd ts (ts.length+1) 0).1.page,.slice ka kn kc,.slice va vn vc,.slice oa on oc,.slice ya (rd ts (ts.length+1) 0).1.kids.length yc],.bool (!(rd ts (ts.length+1) 0).2.2 && decide ((rd ts (ts.length+1) 0).2.1=n))])∧NodeX w' A B (fun b=>w.heap.size<=b∧b<w'.heap.size) (rd ts (ts.length+1) 0).1 ka kn kc va vn vc oa on oc ya yc css∧Below w.heap.size w w':=by
 obtain ⟨N,hN⟩:∃ N,w.heap.size=N:=⟨_,rfl⟩
 have a3:=alloc3 w (.cells #[.slice a n c] 28) (.cells #[.bool false,.int .i64 0,.slice none 0 0,.slice none 0 0,.slice none 0 0,.slice none 0 0] 47) (.cells #[.slice a n c,.int .i64 0,.bool false] 73)
 have b3:Below w.heap.size w (((w.alloc (.cells #[.slice a n c] 28)).alloc (.cells #[.bool false,.int .i64 0,.slice none 0 0,.slice none 0 0,.slice none 0 0,.slice none 0 0] 47)).alloc (.cells #[.slice a n c,.int .i64 0,.bool false] 73)):=(((Below.refl _ _).alloc (Nat.le_refl _) _).alloc (by simp) _).alloc (by simp;omega) _
 have z3:(((w.alloc (.cells #[.slice a n c] 28)).alloc (.cells #[.bool false,.int .i64 0,.slice none 0 0,.slice none 0 0,.slice none 0 0,.slice none 0 0] 47)).alloc (.cells #[.slice a n c,.int .i64 0,.bool false] 73)).heap.size=N+3:=by simp [hN]
 rw [hN] at a3
 have hl:=hT.1
 have HL:Hid (ts.length=n):=hl
 have hn1:n<=1000:=by omega
 clear hl
 go_enter Tryz.func16,Tryz.ntmps16
 go_wp2_with fail
 generalize (((w.alloc (.cells #[.slice a n c] 28)).alloc (.cells #[.bool false,.int .i64 0,.slice none 0 0,.slice none 0 0,.slice none 0 0,.slice none 0 0] 47)).alloc (.cells #[.slice a n c,.int .i64 0,.bool false] 73))=W0 at a3 b3 z3 ⊢
 have hread:=l3Read_any ts hm a n c A B (N+1+1) (ts.length+1) 0 W0 (Nat.zero_le _) (by omega) (by omega) (hT.below (b3.mono hB)) (by omega) (by simpa using a3.2.2)
 refine hread.mono ?_
 rintro e w1 hRA
 obtain ⟨ka,kn,kc,va,vn,vc,oa,on,oc,ya,yc,css,rfl,hX⟩:=hRA.ex
 have W1:=hRA.wk
 have F1:=hRA.fr
 have s1:=F1.size
 have T1:=(F1.block N (by omega) (by omega)).trans a3.1
 have R1:=(F1.block (N+1) (by omega) (by omega)).trans a3.2.1
 have HX:Hid (NodeX w1 A B (fun b=>W0.heap.size<=b∧b<w1.heap.size) (rd ts (ts.length+1) 0).1 ka kn kc va vn vc oa on oc ya yc css):=hX
 obtain ⟨t,ht⟩:∃ t,t=(rd ts (ts.length+1) 0).1:=⟨_,rfl⟩
 obtain ⟨nj,hnj⟩:∃ x,x=(rd ts (ts.length+1) 0).2.1:=⟨_,rfl⟩
 obtain ⟨bd,hbd⟩:∃ x,x=(rd ts (ts.length+1) 0).2.2:=⟨_,rfl⟩
 have HR:Hid (t=(rd ts (ts.length+1) 0).1∧nj=(rd ts (ts.length+1) 0).2.1∧bd=(rd ts (ts.length+1) 0).2.2):=⟨ht,hnj,hbd⟩
 rw [<-ht]
 rw [<-ht] at HX
 rw [<-hnj,<-hbd] at W1
 clear hX hRA hread ht hnj hbd hT
 generalize hlf:t.leaf=lf
 generalize hpg:t.page=pg
 generalize hyn:t.kids.length=yn
 have HQ:Hid (t.leaf=lf∧t.page=pg∧t.kids.length=yn):=⟨hlf,hpg,hyn⟩
 clear hlf hpg hyn
 have hal:=(Below.refl w1.heap.size w1).alloc (Nat.le_refl _) (.cells #[.bool lf,.int .i64 pg,.slice ka kn kc,.slice va vn vc,.slice oa on oc,.slice ya yn yc] 47)
 have N2:=heap_alloc_new w1 (.cells #[.bool lf,.int .i64 pg,.slice ka kn kc,.slice va vn vc,.slice oa on oc,.slice ya yn yc] 47)
 have s2:(w1.alloc (.cells #[.bool lf,.int .i64 pg,.slice ka kn kc,.slice va vn vc,.slice oa on oc,.slice ya yn yc] 47)).heap.size=w1.heap.size+1:=by simp
 have T2:=(hal.block N (by omega)).trans T1
 have R2:=(hal.block (N+1) (by omega)).trans R1
 have W2:=(hal.block (N+1+1) (by omega)).trans W1
 go_upto_region 3 with fail
 generalize w1.alloc (.cells #[.bool lf,.int .i64 pg,.slice ka kn kc,.slice va vn vc,.slice oa on oc,.slice ya yn yc] 47)=W2' at hal N2 s2 T2 R2 W2 ⊢
 obtain ⟨M,hM⟩:∃ M,w1.heap.size=M:=⟨_,rfl⟩
 rw [hM] at N2 s2
 obtain ⟨n0,n1,n2,n3,n4,n5⟩:=box6 N2
 obtain ⟨r0,r1,r2,r3,r4,r5⟩:=box6 R2
 obtain ⟨x0,x1,x2⟩:=box3w W2
 have t0:W2'.cell? ⟨N,0,none⟩=some (.slice a n c):=by simp [World.cell?,T2]
 have fr:=thawT R2
 have l0:N<W2'.heap.size:=by omega
 have l1:N+1<W2'.heap.size:=by omega
 have l2:N+1+1<W2'.heap.size:=by omega
 have l3:M<W2'.heap.size:=by omega
 rw [hM]
 have hMN:M≠N+1:=by omega
 have hMN2:N+1≠M:=by omega
 have hput:=put6T_fr W2'.drew (N+1) (.bool lf) (.int .i64 pg) (.slice ka kn kc) (.slice va vn vc) (.slice oa on oc) (.slice ya yn yc)
 have hput2:=put6T_fr W2' (N+1) (.bool lf) (.int .i64 pg) (.slice ka kn kc) (.slice va vn vc) (.slice oa on oc) (.slice ya yn yc)
 have HBX:Hid _:=put6T_box (w:=W2'.drew) R2 (.bool lf) (.int .i64 pg) (.slice ka kn kc) (.slice va vn vc) (.slice oa on oc) (.slice ya yn yc)
 have HBY:Hid _:=put6T_box R2 (.bool lf) (.int .i64 pg) (.slice ka kn kc) (.slice va vn vc) (.slice oa on oc) (.slice ya yn yc)
 have HEND:Hid (∀ X,Fr (fun k=>k=N+1) W2' X->∀ ans,ans=(!bd && decide (nj=n))->∃ ka' kn' kc' va' vn' vc' oa' on' oc' ya' yc' css',Ending.returned (.tuple #[.agg #[.bool lf,.int .i64 pg,.slice ka kn kc,.slice va vn vc,.slice oa on oc,.slice ya yn yc],.bool ans])=.returned (.tuple #[.agg #[.bool (rd ts (ts.length+1) 0).1.leaf,.int .i64 (rd ts (ts.length+1) 0).1.page,.slice ka' kn' kc',.slice va' vn' vc',.slice oa' on' oc',.slice ya' (rd ts (ts.length+1) 0).1.kids.length yc'],.bool (!(rd ts (ts.length+1) 0).2.2 && decide ((rd ts (ts.length+1) 0).2.1=n))])∧NodeX X A B (fun b=>w.heap.size<=b∧b<X.heap.size) (rd ts (ts.length+1) 0).1 ka' kn' kc' va' vn' vc' oa' on' oc' ya' yc' css'∧Below w.heap.size w X):=by
  intro X hX ans hans
  obtain ⟨q1,q2,q3⟩:=HR.out
  obtain ⟨g1,g2,g3⟩:=HQ.out
  refine ⟨ka,kn,kc,va,vn,vc,oa,on,oc,ya,yc,css,?_,?_,?_⟩
  ·rw [<-q1,<-q2,<-q3,g1,g2,g3,hans]
  ·rw [<-q1]
   have hkk:∀ k,k<w1.heap.size->k≠N+1->X.heap[k]?=w1.heap[k]?:=fun k hk1 hk2=>(hX.block k (by omega) hk2).trans (hal.block k hk1)
   have hss:=hX.size
   exact HX.out.weaken (fun k h1 h2=>hkk k (by omega) (by omega)) (fun b hb=>hkk b hb.2 (by omega)) (fun b hb=>⟨by omega,by omega⟩)
  ·have hb1:Below w.heap.size w w1:=b3.trans (F1.below (by omega) (fun g e=>by omega))
   have hb2:=hb1.trans (hal.mono (by omega))
   exact hb2.trans (hX.below (by omega) (fun g e=>by omega))
 have HF1:Hid _:=hput
 have HF2:Hid _:=hput2
 cases bd
 ·go_region_held3 (fun w'=>w'.cell? ⟨N+1+1,2,none⟩=some (.bool false)∧w'.cell? ⟨N+1+1,1,none⟩=some (.int .i64 nj)∧w'.cell? ⟨N,0,none⟩=some (.slice a n c)∧w'.cell? ⟨M,0,none⟩=some (.bool lf)∧w'.cell? ⟨M,1,none⟩=some (.int .i64 pg)∧w'.cell? ⟨M,2,none⟩=some (.slice ka kn kc)∧w'.cell? ⟨M,3,none⟩=some (.slice va vn vc)∧w'.cell? ⟨M,4,none⟩=some (.slice oa on oc)∧w'.cell? ⟨M,5,none⟩=some (.slice ya yn yc)) (go_keep) (fail)
  clear hput hput2
  go_wp2_with fail
  show bodyPost _ _ _ _ _ (put6T W2' (N+1) (.bool lf) (.int .i64 pg) (.slice ka kn kc) (.slice va vn vc) (.slice oa on oc) (.slice ya yn yc)).drew
  generalize put6T W2' (N+1) (.bool lf) (.int .i64 pg) (.slice ka kn kc) (.slice va vn vc) (.slice oa on oc) (.slice ya yn yc)=Y at HBY HF2 ⊢
  obtain ⟨p0,p1,p2,p3,p4,p5⟩:=box6 (w:=Y.drew) HBY.out
  refine bodyPost_ret (v:=.tuple #[.agg #[.bool lf,.int .i64 pg,.slice ka kn kc,.slice va vn vc,.slice oa on oc,.slice ya yn yc],.bool ((nj:Int) == (n:Int))]) (by simp [results,Tryz.results16,go_sem,p0,p1,p2,p3,p4,p5]) rfl ?_
  exact HEND.out Y.drew ⟨HF2.out.os,HF2.out.tape,HF2.out.output,HF2.out.size,HF2.out.block⟩ ((nj:Int) == (n:Int)) (by have:=HR.out;have:=HL.out;simp;by_cases h:nj=n<;>simp [h];omega)
 ·clear n0 n1 n2 n3 n4 n5 r0 r1 r2 r3 r4 r5 x0 x1 x2 t0
  obtain ⟨r0,r1,r2,r3,r4,r5⟩:=box6 R2
  refine wp_region_noPanic ?_
  refine wp_region_held_drew (S:=(fun w'=>w'.heap[M]?=some (.cells #[.bool lf,.int .i64 pg,.slice ka kn kc,.slice va vn vc,.slice oa on oc,.slice ya yn yc] 47)∧w'.heap[N+1+1]?=some (.cells #[.slice a n c,.int .i64 nj,.bool true] 73))) (by kernel_rfl) ⟨N2,W2⟩ (fun hHeld=>?_)
  refine tY 0 (.agg #[.bool lf,.int .i64 pg,.slice ka kn kc,.slice va vn vc,.slice oa on oc,.slice ya yn yc]) .z (by kernel_rfl) (by rfl) ?_ ‹_› ?_
  ·intro wq hSw;(try dsimp only at hSw);obtain ⟨q0,q1,q2,q3,q4,q5⟩:=box6 hSw.1;go_simp
  refine tY 1 (.pointer (some ⟨N+1+1,0,none⟩)) (.s .z) (by kernel_rfl) (by rfl) ?_ ‹_› ?_
  ·intro wq hSw;go_simp
  refine tY 2 (.pointer (some ⟨N+1+1,0,none⟩)) (.s (.s .z)) (by kernel_rfl) (by rfl) ?_ ‹_› ?_
  ·intro wq hSw;go_simp
  refine tY 3 (.pointer (some ⟨N+1+1,2,none⟩)) (.s (.s (.s .z))) (by kernel_rfl) (by rfl) ?_ ‹_› ?_
  ·intro wq hSw;go_simp
  try simp only [Act.put,q1,q2,q3]
  refine tY 4 (.bool true) (.s (.s (.s (.s .z)))) (by kernel_rfl) (by rfl) ?_ ‹_› ?_
  ·intro wq hSw;(try dsimp only at hSw);obtain ⟨q0,q1,q2⟩:=box3w hSw.2;go_simp
  refine tY 5 (.bool false) (.f .z) (by kernel_rfl) (by rfl) ?_ ‹_› ?_
  ·intro wq hSw;go_simp
  refine tY 6 (.bool false) (.f (.s .z)) (by kernel_rfl) (by rfl) ?_ ‹_› ?_
  ·intro wq hSw;go_simp
  refine tS 7 (.f (.s (.s .z))) (by kernel_rfl) (by rfl) ‹_› ?_
  try simp only [Act.put,q1,q2,q3]
  refine tS 8 (.f (.s (.s (.s .z)))) (by kernel_rfl) (by rfl) ‹_› ?_
  refine tS 9 (.f (.s (.s (.s (.s .z))))) (by kernel_rfl) (by rfl) ‹_› ?_
  refine tS 10 (.t .z) (by kernel_rfl) (by rfl) ‹_› ?_
  refine tS 11 (.t (.s .z)) (by kernel_rfl) (by rfl) ‹_› ?_
  try simp only [Act.put,q1,q2,q3]
  refine tS 12 (.t (.s (.s .z))) (by kernel_rfl) (by rfl) ‹_› ?_
  refine tS 13 (.t (.s (.s (.s .z)))) (by kernel_rfl) (by rfl) ‹_› ?_
  refine tS 14 (.t (.s (.s (.s (.s .z))))) (by kernel_rfl) (by rfl) ‹_› ?_
  refine tY 15 (.bool false) (.t (.f .z)) (by kernel_rfl) (by rfl) ?_ ‹_› ?_
  ·intro wq hSw;go_simp
  try simp only [Act.put,q1,q2,q3]
  refine wpAnyH_ready (rs:=[16]) (by kernel_rfl) (by simp) ?_
  refine rdA (.t (.f (.s .z))) (fun K hK=>?_) AllReadyH.nil
  go_simp
  go_wp2_with fail
  show K _ (put6T W2' (N+1) (.bool lf) (.int .i64 pg) (.slice ka kn kc) (.slice va vn vc) (.slice oa on oc) (.slice ya yn yc)).drew
  clear hput hput2 HBX HF1
  generalize put6T W2' (N+1) (.bool lf) (.int .i64 pg) (.slice ka kn kc) (.slice va vn vc) (.slice oa on oc) (.slice ya yn yc)=Y at HBY HF2 ⊢
  refine hK.out _ _ ⟨(HF2.out.block M l3 hMN).trans N2,(HF2.out.block (N+1+1) l2 (by omega)).trans W2⟩ (fun hHeld=>?_)
  clear hK K
  refine tY 17 (.bool false) (.t (.f (.s (.s .z)))) (by kernel_rfl) (by rfl) ?_ ‹_› ?_
  ·intro wq hSw;go_simp
  try simp only [Act.put,q1,q2,q3]
  refine wpAnyH_done (by kernel_rfl) ?_ _
  refine NoPanic.normal ?_
  go_wp2_with fail
  obtain ⟨p0,p1,p2,p3,p4,p5⟩:=box6 (w:=Y.drew) HBY.out
  refine bodyPost_ret (v:=.tuple #[.agg #[.bool lf,.int .i64 pg,.slice ka kn kc,.slice va vn vc,.slice oa on oc,.slice ya yn yc],.bool false]) (by simp [results,Tryz.results16,go_sem,p0,p1,p2,p3,p4,p5]) rfl ?_
  exact HEND.out Y.drew ⟨HF2.out.os,HF2.out.tape,HF2.out.output,HF2.out.size,HF2.out.block⟩ false (by have:=HR.out;have:=HL.out;rfl)
def Tight:T->Prop
 | ⟨l,_,_,_,o,y⟩=>(l=false->o=[])∧∀ k,k ∈ y->Tight k
theorem tight_eq (t:T):Tight t ↔ (t.leaf=false->t.over=[])∧∀ k ∈ t.kids,Tight k:=by cases t;rw [Tight]
def TGood (ts:List TN) (f:Nat):Prop:=∀ nx t nx',rd ts f nx=(t,nx',false)->Seg ts nx t->Tight t
theorem rdK_tight {ts:List TN} {f:Nat} (hf:TGood ts f):∀ (ks:List Int) (nx:Nat) (zs:List T) (nx':Nat),rdK (rd ts f) ks nx=(zs,nx',false)->nx+(zs.map T.nodes).sum<=ts.length->offs nx (zs.map T.flat)=(ts.drop nx).take (zs.map T.nodes).sum->∀ z ∈ zs,Tight z
 | [],nx,zs,nx',h,_,_=>by
  simp [rdK] at h
  obtain ⟨rfl,rfl⟩:=h
  simp
 | k::ks,nx,zs,nx',h,hlen,hoff=>by
  unfold rdK at h
  split at h
  ·rename_i hk
   subst hk
   split at h
   ·simp at h
   ·rename_i hb
    simp only [Prod.mk.injEq] at h
    obtain ⟨e1,rfl,h3⟩:=h
    have hone:rd ts f nx=((rd ts f nx).1,(rd ts f nx).2.1,false):=by
     have:(rd ts f nx).2.2=false:=by simpa using hb
     rw [<-this]
    obtain ⟨a1,a2,a3⟩:=rd_some ts f _ _ _ hone
    generalize (rd ts f nx).1=t at *
    generalize (rd ts f nx).2.1=nx1 at *
    have hrest:rdK (rd ts f) ks nx1=((rdK (rd ts f) ks nx1).1,(rdK (rd ts f) ks nx1).2.1,false):=by rw [<-h3]
    generalize (rdK (rd ts f) ks nx1).1=qs at *
    generalize (rdK (rd ts f) ks nx1).2.1=nx2 at *
    subst e1
    simp only [List.map_cons,List.sum_cons,offs] at hlen hoff
    rw [flat_len t a1,take_split] at hoff
    obtain ⟨hs1,hs2⟩:=List.append_inj hoff (by rw [flat_len t a1,List.length_take,List.length_drop];omega)
    have k1:=hf nx t nx1 hone ⟨by omega,hs1⟩
    have k2:=rdK_tight hf ks nx1 qs nx2 hrest (by omega) (by rw [a2];exact hs2)
    intro z hz
    rcases List.mem_cons.1 hz with rfl | hz
    ·exact k1
    ·exact k2 z hz
  ·simp at h
theorem rd_tight (ts:List TN):∀ f,TGood ts f
 | 0=>by intro nx t nx' h;simp [rd] at h
 | f+1=>by
  have ih:=rd_tight ts f
  intro nx t nx' h hseg
  unfold rd at h
  split at h
  ·rename_i hlt
   have hsh:=seg_head hlt
   split at h
   ·simp only [Prod.mk.injEq] at h
    obtain ⟨rfl,rfl,_⟩:=h
    rw [tight_eq];simp
   ·rename_i hl
    split at h
    ·simp at h
    ·rename_i hk
     simp only [Prod.mk.injEq] at h
     obtain ⟨rfl,rfl,h3⟩:=h
     have hrest:rdK (rd ts f) (ts.getD nx dT).kids (nx+1)=((rdK (rd ts f) (ts.getD nx dT).kids (nx+1)).1,(rdK (rd ts f) (ts.getD nx dT).kids (nx+1)).2.1,false):=by rw [<-h3]
     generalize ts.getD nx dT=x at *
     obtain ⟨a1,a2,a3⟩:=rdK_some (rd_some ts f) _ _ _ _ hrest
     generalize (rdK (rd ts f) x.kids (nx+1)).1=zs at *
     generalize (rdK (rd ts f) x.kids (nx+1)).2.1=nx2 at *
     have hn:T.nodes ⟨false,x.page,[],x.vals,x.over,zs⟩=1+(zs.map T.nodes).sum:=T.nodes_eq _
     obtain ⟨hs1,hs2⟩:=hseg
     rw [hn] at hs1 hs2
     rw [take_split,hsh,T.flat_eq,if_neg (by simp)] at hs2
     have hx:=(List.cons.inj hs2).1
     have ho:=(List.cons.inj hs2).2
     simp only at hx ho
     have hxo:x.over=[]:=by rw [<-hx]
     rw [tight_eq]
     exact ⟨fun _=>hxo,rdK_tight ih x.kids (nx+1) zs nx2 hrest (by omega) ho⟩
  ·simp at h
theorem good_kids {t k:T} {r:Bool} (h:t.good r=true) (hk:k ∈ t.kids):k.good false=true:=by
 rw [T.good_eq] at h
 simp only [Bool.and_eq_true] at h
 exact List.all_eq_true.1 h.1.2 (k.good false) (List.mem_map.2 ⟨k,hk,rfl⟩)
theorem nums_page (t:T):Tight t->(∃ r,t.good r=true)->∀ x ∈ t.nums,pgB x=true:=by
 induction t using T.ind with
 | h t ih =>
  rintro ht ⟨r,hg⟩ x hx
  rw [tight_eq] at ht
  have hkids:∀ k ∈ t.kids,∀ x ∈ k.nums,pgB x=true:=fun k hk=>ih k hk (ht.2 k hk) ⟨false,good_kids hg hk⟩
  rw [T.good_eq] at hg
  simp only [Bool.and_eq_true,decide_eq_true_eq] at hg
  obtain ⟨⟨⟨⟨g1,g2⟩,g3⟩,g4⟩,g5⟩:=hg
  rw [T.nums_eq] at hx
  rcases List.mem_append.1 hx with hx | hx
  ·rcases List.mem_append.1 hx with hx | hx
   ·split at hx
    ·cases hx
    ·rename_i h0
     simp at hx
     subst hx
     simp [h0] at g2
     exact g2
   ·obtain ⟨h1,h2⟩:=List.mem_filter.1 hx
    cases hl:t.leaf
    ·rw [ht.1 hl] at h1;cases h1
    ·simp only [hl,Bool.not_true,Bool.false_or,Bool.and_eq_true,decide_eq_true_eq] at g3
     obtain ⟨⟨l1,l2⟩,l3⟩:=g3
     obtain ⟨i,hi,e⟩:=List.mem_iff_getElem.1 h1
     have hz:(t.vals[i]'(by omega),x) ∈ t.vals.zip t.over:=by
      rw [List.mem_iff_getElem]
      refine ⟨i,by simp;omega,by simp [e]⟩
     have h3:=List.all_eq_true.1 l3 _ hz
     unfold standB at h3
     simp only [Bool.and_eq_true] at h3
     have h4:=h3.1.1.2
     have h5:(x == 0)=false:=by simpa using h2
     simpa [h5] using h4
  ·obtain ⟨l,hl,hx⟩:=List.mem_flatten.1 hx
   obtain ⟨k,hk,rfl⟩:=List.mem_map.1 hl
   exact hkids k hk x hx
theorem flat_sum_le {α:Type} {l:List T} {f:T->List α} {c:Nat} (h:∀ k ∈ l,(f k).length<=c*k.nodes):((l.map f).flatten).length<=c*(l.map T.nodes).sum:=by
 induction l with
 | nil=>simp
 | cons a r ih =>
  simp only [List.map_cons,List.flatten_cons,List.length_append,List.sum_cons]
  have h1:=h a (List.mem_cons_self ..)
  have h2:=ih (fun k hk=>h k (List.mem_cons_of_mem _ hk))
  rw [Nat.mul_add]
  omega
theorem nums_len (t:T):Tight t->(∃ r,t.good r=true)->t.nums.length<=5*t.nodes:=by
 induction t using T.ind with
 | h t ih =>
  rintro ht ⟨r,hg⟩
  rw [tight_eq] at ht
  have hk:=flat_sum_le (l:=t.kids) (f:=T.nums) (c:=5) (fun k hk=>ih k hk (ht.2 k hk) ⟨false,good_kids hg hk⟩)
  rw [T.good_eq] at hg
  simp only [Bool.and_eq_true,decide_eq_true_eq] at hg
  obtain ⟨⟨⟨⟨g1,g2⟩,g3⟩,g4⟩,g5⟩:=hg
  rw [T.nums_eq,T.nodes_eq,List.length_append,List.length_append]
  have h1:(if t.page=0 then ([]:List Int) else [t.page]).length<=1:=by split<;>simp
  have h2:(t.over.filter (fun x=>x != 0)).length<=4:=by
   refine Nat.le_trans (List.length_filter_le ..) ?_
   cases hl:t.leaf
   ·rw [ht.1 hl];simp
   ·simp only [hl,Bool.not_true,Bool.false_or,Bool.and_eq_true,decide_eq_true_eq] at g3
    simp only [T.size,hl,if_true] at g1
    omega
  omega
theorem slots_len (t:T):(∃ r,t.good r=true)->t.slots.length<=4*t.nodes:=by
 induction t using T.ind with
 | h t ih =>
  rintro ⟨r,hg⟩
  have hk:=flat_sum_le (l:=t.kids) (f:=T.slots) (c:=4) (fun k hk=>ih k hk ⟨false,good_kids hg hk⟩)
  rw [T.good_eq] at hg
  simp only [Bool.and_eq_true,decide_eq_true_eq] at hg
  rw [T.slots_eq,T.nodes_eq,List.length_append]
  have h1:(if t.leaf then t.keys.zip (t.vals.zip t.over) else []).length<=4:=by
   have g1:=hg.1.1.1.1
   unfold T.size at g1
   split
   ·rename_i hl
    rw [if_pos hl] at g1
    simp only [List.length_zip]
    omega
   ·simp
  omega
theorem flat_even (t:T):(∃ r,t.good r=true)->∀ s,∀ x ∈ t.flat s,x.over.length=x.vals.length:=by
 induction t using T.ind with
 | h t ih =>
  rintro ⟨r,hg⟩ s x hx
  have hall:∀ k ∈ t.kids,∀ s,∀ x ∈ k.flat s,x.over.length=x.vals.length:=fun k hk=>ih k hk ⟨false,good_kids hg hk⟩
  rw [T.flat_eq] at hx
  split at hx
  ·rename_i hl
   simp at hx
   subst hx
   rw [T.good_eq] at hg
   simp only [Bool.and_eq_true,decide_eq_true_eq,hl,Bool.not_true,Bool.false_or] at hg
   have:=hg.1.1.2
   simp only
   omega
  ·rcases List.mem_cons.1 hx with rfl | hx
   ·rfl
   ·have:∀ (ys:List T) (s:Nat),(∀ k ∈ ys,∀ s,∀ x ∈ k.flat s,x.over.length=x.vals.length)->∀ x ∈ offs s (ys.map T.flat),x.over.length=x.vals.length:=by
     intro ys
     induction ys with
     | nil=>intro s h x hx;simp [offs] at hx
     | cons y r ihr =>
      intro s h x hx
      simp only [List.map_cons,offs,List.mem_append] at hx
      rcases hx with hx | hx
      ·exact h y (List.mem_cons_self ..) s x hx
      ·exact ihr _ (fun k hk=>h k (List.mem_cons_of_mem _ hk)) x hx
    exact this t.kids _ hall x hx
def ascTo (l:List ByteArray) (k:Nat):Prop:=∀ i,i+1<k->lessB (l.getD i ByteArray.empty) (l.getD (i+1) ByteArray.empty)=true
theorem asc_of (l:List ByteArray) (h:ascTo l l.length):ascB l=true:=by
 induction l with
 | nil=>rfl
 | cons a r ih =>
  cases r with
  | nil=>rfl
  | cons b r =>
   show (lessB a b && ascB (b::r))=true
   rw [Bool.and_eq_true]
   refine ⟨by simpa using h 0 (by simp),ih (fun i hi=>?_)⟩
   have:=h (i+1) (by simp at hi ⊢;omega)
   simpa using this
theorem asc_to (l:List ByteArray) (h:ascB l=true):ascTo l l.length:=by
 induction l with
 | nil=>intro i hi;simp at hi
 | cons a r ih =>
  cases r with
  | nil=>intro i hi;simp at hi
  | cons b r =>
   have h:(lessB a b && ascB (b::r))=true:=h
   rw [Bool.and_eq_true] at h
   intro i hi
   cases i with
   | zero=>simpa using h.1
   | succ i =>
    have:=ih h.2 i (by simp at hi ⊢;omega)
    simpa using this
end Go.Proofs.YtbfggcekifaldaaGreat
