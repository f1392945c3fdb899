import Derived.Test.YtkhglgalbifcnaaGreatGAA
import Derived.Test.YtkhglgalbifcnaaGreatGAZ
import Derived.Test.YtkhglgalbifcnaaGreatGBA
import Derived.Test.YtkhglgalbifcnaaGreatGBC
import Derived.Test.YtkhglgalbifcnaaGreatLayT
import Derived.Sort.OwnSortedInts
import Derived.Shelf.SortM.Plain
import Derived.Shelf.SortM.SortNone
import Derived.Shelf.SlicesG.SearchI
namespace Go.Proofs.YtkhglgalbifcnaaGreat
open Go.RowKit
set_option linter.unusedVariables false
set_option linter.unusedSimpArgs false
set_option maxRecDepth 100000
def pgsN (t:TN):List Int:=t.page::t.over
def freeTo (xs:List Int) (n:Nat):List Int:=((List.range' 2 n).filter (fun k:Nat=>!(decide ((k:Int) ∈ xs)))).map (fun i:Nat=>(i:Int))
def freesN (xs:List Int):List Int:=freeTo xs 998
theorem freeTo_in {xs:List Int} {n:Nat} (h:((2+n:Nat):Int) ∈ xs):freeTo xs (n+1)=freeTo xs n:=by
 unfold freeTo
 rw[List.range'_1_concat,List.filter_append,List.filter_cons,if_neg (by rw[decide_eq_true h];decide)]
 simp
theorem freeTo_out {xs:List Int} {n:Nat} (h:((2+n:Nat):Int) ∉ xs):freeTo xs (n+1)=freeTo xs n++[((2+n:Nat):Int)]:=by
 unfold freeTo
 rw[List.range'_1_concat,List.filter_append,List.filter_cons,if_pos (by rw[decide_eq_false h];rfl),List.map_append]
 rfl
theorem ints_mapI (xs:List Int):rowsOf intCells xs=xs.map (Value.int .i64):=by
 induction xs with
 | nil=>rfl
 | cons x r ih=>simpa[rowsOf,intCells] using ih
theorem sortInts_any (w:World) (base:Nat) (v:Value) (xs:List Int) (hm:xs.length<=16777216) (h:w.ownsRow base 2 1 v xs.length (rowsOf intCells xs)) :
  Calls Tryz.prog 52 #[v] w fun e w'=>e=.returned (.tuple #[])∧w'.ownsRow base 2 1 v xs.length (rowsOf intCells (xs.mergeSort fun x y=>decide (x<=y)))∧w.grownBy w' v.ownBlock:=by
 rcases h.2 with ⟨rfl,h0⟩ | ⟨g,cap,cur,rfl,hb,hk,h1,h2,h3,h4⟩
 ·obtain rfl:xs=[]:=List.length_eq_zero_iff.1 h0
  refine (AnyM.slices_Sort_int_none lay_sortInts none 0 w).mono ?_
  rintro e w' ⟨rfl,rfl⟩
  exact⟨rfl,by simpa using h,⟨rfl,rfl,rfl,Nat.le_refl _,fun _ _ _=>rfl⟩⟩
 ·rw[ints_mapI] at h4 ⊢
  rw[Nat.mul_one] at h4
  refine (AnyM.slices_Sort_int lay_sortInts g 0 cap xs w (holds_of_blockI hk h4) (Array.getElem?_eq_some_iff.1 hk).1 (by omega)).mono ?_
  rintro e w' ⟨rfl,n,os,rfl⟩
  exact⟨rfl,ownsRow_sortedI (by simp) hb hk h1 h2 h3,grownBy_sortedI _⟩
theorem searchInts_any (w:World) (base g n cap:Nat) (xs ys:List Int) (x:Int) (hl:xs.length=n) (hp:xs.Perm ys) (hs:xs.Pairwise (·<=·)) (hm:n<=16777216) (h:w.ownsRow base 2 1 (.slice (some ⟨g,0,none⟩) n cap) n (rowsOf intCells xs)) :
  Calls Tryz.prog 54 #[.slice (some ⟨g,0,none⟩) n cap,.int .i64 x] w fun e w'=>(∃ k:Int,e=.returned (.tuple #[.int .i64 k,.bool (decide (x ∈ ys))]))∧Below w.heap.size w w':=by
 have hc:∀ j,j<xs.length->w.cell? ⟨g,0+j,none⟩=some (.int .i64 (xs.getD j 0)):=fun j hj=>by
  rw[Nat.zero_add,h.cellAt j (by omega),ints_mapI]
  simp[List.getD,hj]
 refine (AnyG.slices_BinarySearch_int lay_searchInts g 0 n cap xs x w (by omega) (by omega) hc (by rw[<-hl,List.take_length];exact hs)).mono ?_
 rintro e w' ⟨rfl,q,rfl⟩
 have e:(xs.take n).contains x=decide (x ∈ ys):=by
  rw[<-hl,List.take_length,Bool.eq_iff_iff,List.contains_iff_mem,decide_eq_true_eq]
  exact hp.mem_iff
 exact⟨⟨_,by rw[e]⟩,⟨rfl,rfl,rfl,Nat.le_refl _,fun _ _=>rfl⟩⟩
theorem sorted_ms (xs:List Int):(xs.mergeSort fun x y=>decide (x<=y)).Pairwise (·<=·):=by
 have:=List.pairwise_mergeSort (le:=fun (x y:Int)=>decide (x<=y)) (fun a b c h1 h2=>by simp at h1 h2 ⊢;omega) (fun a b=>by simp;omega) xs
 simpa using this
theorem newPages_anyI (w:World):Calls Tryz.prog 53 #[] w fun e w'=>e=.returned (.agg #[.int .i64 2,.int .i64 999])∧Below w.heap.size w w':=by
 go_enter Tryz.func53,Tryz.ntmps53
 go_wp2_with fail
 exact bodyPost_ret (v:=.agg #[.int .i64 2,.int .i64 999]) (by simp[results,Tryz.results53,go_sem]) rfl ⟨rfl,by first | exact Below.refl _ _ | exact (Below.refl _ _).alloc (Nat.le_refl _) _⟩
theorem step_append_L {P:Program} {ops:Array Oper} {o:Oper} {a:Act} {w:World} {K:Act->World->Prop} {Q:Exit->Act->World->Prop} {E:Prop}
  (hgd:o.guard=none) (s x:Operand) (t:TypeId) (ho:o.op=.call { callee:=.builtin .append,args:=#[s,x],argTypes:=#[t,t] })
  (base:Nat) (e:TypeId) (i:TypeInfo) (z:Value) (size bytes:Nat) (ht:P.underlying t=some (.slice e)) (hi:P.info? e=some i) (hz:i.zero=some z)
  (hsize:i.size=size) (hby:i.bytes=bytes) (hzs:z.cells.size=size) (hsz:0<size) (hbb:bytes<=1000)
  (v:Value) (n:Nat) (xs:List Value) (hs:a.eval s=v) (hown:w.ownsRow base e size v n xs) (hn:n<=16777216)
  (u:Value) (B m:Nat) (news:List Value) (hx:a.eval x=u) (hsrc:SrcAt w B size m u news) (hbase:base<=w.heap.size)
  (h:∀ v' w',w'.ownsRow base e size v' (n+m) (xs++news)->w.grownBy w' v.ownBlock->(v'.ownBlock=v.ownBlock∨∀ g,v'.ownBlock=some g->w.heap.size<=g)->K (a.put o.dst v') w') :
  if Region.wanted o (yielded ops a.tmps)=true then Oper.wp P o a w K Q else E:=by
 obtain⟨h1,h2,h3,ad,c,rfl,h4,h6,h5⟩:=hsrc
 have hbt:(n+m)*bytes<=140737488355328:=Nat.le_trans (Nat.mul_le_mul_left _ hbb) (by omega)
 cases ad with
 | some y=>exact step_append_G hgd s x t ho base e i z size bytes ht hi hz hsize hby hzs hsz v n xs hs hown y m c news hx h1 (fun j u hj=>(h5 y rfl j u hj).2) h3 (by unfold maxLen;omega) hbt hbase h
 | none =>
  have hm:=h4 rfl
  subst hm
  obtain rfl:news=[]:=List.length_eq_zero_iff.1 (by rw[h1];simp)
  rw[if_pos (by simp[Region.wanted,hgd])]
  have hr:=run_append_noneS (P:=P) base t o.type e i size c ht hi v n xs hown
  unfold Oper.wp execOp
  simp only[ho,resolve,invoke,builtin,Sem.run_bind,Sem.run_pure,Result.andThen_ok,List.map_toArray,List.map_cons,List.map_nil,hs,hx,hr]
  exact h v w (by simpa using hown) ⟨rfl,rfl,rfl,Nat.le_refl _,fun _ _ _=>rfl⟩ (.inl rfl)
theorem take_flat {ts:List TN} {j:Nat} (h:j<ts.length):(ts.take (j+1)).flatMap pgsN=(ts.take j).flatMap pgsN++pgsN (ts.getD j dT):=by
 rw[List.take_add_one,List.getElem?_eq_getElem h,List.flatMap_append]
 simp[List.getD,h]
theorem run_span0 (w:World):(Instr.field 115 (.agg #[.int .i64 2,.int .i64 999]) 0).run Tryz.prog w=.ok (.int .i64 2) w:=by
 simp[Instr.field,asAgg,go_sem]
theorem run_span1 (w:World):(Instr.field 115 (.agg #[.int .i64 2,.int .i64 999]) 1).run Tryz.prog w=.ok (.int .i64 999) w:=by
 simp[Instr.field,asAgg,go_sem]
theorem owns_nilI (w:World) (base e size:Nat):w.ownsRow base e size (.slice none 0 0) 0 []:=⟨by simp,Or.inl ⟨rfl,rfl⟩⟩
theorem cell_one_newI (w:World) (a:Value) (t:TypeId):∀ j u,[a][j]?=some u->(w.alloc (.cells #[a] t)).cell? ((⟨w.heap.size,0,none⟩:Addr).add j)=some u:=by
 intro j u h
 match j,h with
 | 0,h=>simpa[Addr.add] using h
set_option maxHeartbeats 6400000 in
theorem freePages_any (ts:List TN) (a:Option Addr) (n c A B:Nat) (w:World) (hB:B<=w.heap.size) (hT:NodesAt w A B a n c ts) (hn1:1<=n) (hn:n<=1000) (hov:∀ j,j<n->(ts.getD j dT).over.length<=4) (tk:List Int) (ta:Option Addr) (tn tc A0 B0:Nat) (hB2:B0<=w.heap.size) (hTk:IntsAt w A0 B0 ta tn tc tk) (htn:tn<=1048576) :
  Calls Tryz.prog 26 #[.agg #[.slice a n c],.slice ta tn tc] w fun e w'=>∃ fa fn fc,e=.returned (.slice fa fn fc)∧w'.ownsRow w.heap.size 2 1 (.slice fa fn fc) fn (rowsOf intCells (freesN (tk++ts.flatMap pgsN)))∧Below w.heap.size w w':=by
 obtain⟨N,hN⟩:∃ N,w.heap.size=N:=⟨_,rfl⟩
 obtain⟨W,hW⟩:∃ W,W=w.alloc (.cells #[.slice a n c] 29):=⟨_,rfl⟩
 have b0:Below N w W:=by rw[hW,<-hN];exact (Below.refl _ _).alloc (Nat.le_refl _) _
 have k0:W.heap[N]?=some (.cells #[.slice a n c] 29):=by rw[hW,<-hN];exact heap_alloc_new w _
 have hsW:W.heap.size=N+1:=by rw[hW];simp[hN]
 have hcr:=rowsAt_cells ic1 (hTk.keep (.of_below (b0.mono (by omega)))) (show B0<=W.heap.size by omega)
 have hcl:=cloneInt_any ta tn tc (rowsOf intCells tk) W hcr.1 htn hcr.2.1 (ints_one _) hcr.2.2
 have HTL:Hid (tk.length=tn∧ts.length=n):=⟨hTk.1,hT.1⟩
 have HT:Hid (NodesAt w A B a n c ts):=hT
 have HOV:Hid (∀ j,j<n->(ts.getD j dT).over.length<=4):=hov
 have HB0:Hid (Below N w W):=b0
 obtain⟨ii,hii,hj0,hj1,hj2⟩:=info_parts info_int64
 have rs0:=run_span0
 have rs1:=run_span1
 have lN:N<W.heap.size:=by omega
 have cN:W.cell? ⟨N,0,none⟩=some (.slice a n c):=by simp[World.cell?,k0]
 clear hcr hTk hT hov b0
 go_enter Tryz.func26,Tryz.ntmps26
 go_wp2_with fail
 rw[<-hW]
 clear hW
 refine hcl.mono ?_
 rintro e w1 ⟨v1,rfl,ho1,hb1⟩
 obtain⟨ua0,uc0,rfl⟩:=own_shape ho1
 have hs1:=hb1.size
 have c1:w1.cell? ⟨N,0,none⟩=some (.slice a n c):=(hb1.cell (p:=⟨N,0,none⟩) (by show N<_;omega)).trans cN
 have l1:N<w1.heap.size:=by omega
 have HO1:Hid (w1.ownsRow (N+1) 2 1 (.slice ua0 tn uc0) tn (rowsOf intCells tk)):=by rw[<-hsW];exact ho1
 have HB1:Hid (Below N w w1):=HB0.out.trans (hb1.mono (by omega))
 clear ho1 hb1 cN hcl k0
 go_wp2_with fail
 go_loopw [5,17] (fun o k wr=>∃ (j m:Nat) (ua:Option Addr) (uc:Nat),j<=n∧k=.int .i64 (j:Int)∧o=.slice ua m uc∧m<=1048576+5*j∧N<wr.heap.size∧Hid (m=(tk++(ts.take j).flatMap pgsN).length)∧Hid (wr.ownsRow (N+1) 2 1 (.slice ua m uc) m (rowsOf intCells (tk++(ts.take j).flatMap pgsN)))∧Hid (Below N w wr)) (fun _ k _=>n - (intOf k).toNat)
 case atStart=>exact⟨0,tn,ua0,uc0,Nat.zero_le _,rfl,rfl,by omega,by omega,by show _=_;simp[HTL.out.1],by show World.ownsRow _ _ _ _ _ _ _;simpa using HO1.out,HB1⟩
 case round =>
  clear HO1 HB1 c1 l1
  obtain⟨j,m,ua,uc,hj,rfl,rfl,hm,HNr,HM,HO,HBr⟩:=hrel
  have hsr:=HBr.out.size
  have lNr:N<wr.heap.size:=HNr
  by_cases hlt:j<n
  ·obtain⟨b,off,rfl,hlb,ka,kn,kc,va,vn,vc,oa,on,oc,ya,yn,yc,X0⟩:=HT.out.at hlt
   have X:=X0.keep hlb (.of_below (HBr.out.mono (by omega)))
   have d0:=X.c0
   have d1:=X.c1
   have d2:=X.c2
   have d3:=X.c3
   have d4:=X.c4
   have d5:=X.c5
   have hlb2:b<wr.heap.size:=by omega
   have hon:on<=4:=by have:=HOV.out j hlt;have:=X.over.1;omega
   have HOS:Hid (∀ V,Below N w V->SrcAt V B 1 on (.slice oa on oc) (rowsOf intCells (ts.getD j dT).over)):=fun V hV=>by
    exact srcRows (fun _=>rfl) (one_int _) (X0.over.keep (.of_below (hV.mono (by omega)))) (by omega)
   obtain⟨lf,hlf⟩:∃ lf,(ts.getD j dT).leaf=lf:=⟨_,rfl⟩
   obtain⟨pg,hpg⟩:∃ pg,(ts.getD j dT).page=pg:=⟨_,rfl⟩
   rw[hlf] at d0
   rw[hpg] at d1
   have HPG:Hid ((ts.getD j dT).page=pg):=hpg
   clear hlf hpg X X0
   go_upto_region 5 with fail
   have hal:=(Below.refl wr.heap.size wr).alloc (Nat.le_refl _) (.cells #[.bool lf,.int .i64 pg,.slice ka kn kc,.slice va vn vc,.slice oa on oc,.slice ya yn yc] 103)
   have kX:=heap_alloc_new wr (.cells #[.bool lf,.int .i64 pg,.slice ka kn kc,.slice va vn vc,.slice oa on oc,.slice ya yn yc] 103)
   generalize wr.alloc (.cells #[.bool lf,.int .i64 pg,.slice ka kn kc,.slice va vn vc,.slice oa on oc,.slice ya yn yc] 103)=W5 at hal kX ⊢
   obtain⟨z0,z1,z2,z3,z4,z5⟩:=box6g kX
   have HW5:Hid (Below wr.heap.size wr W5):=hal
   have lX:wr.heap.size<W5.heap.size:=(Array.getElem?_eq_some_iff.1 kX).1
   have bV0:=(Below.refl W5.heap.size W5).drew
   have HKX:Hid (W5.heap[wr.heap.size]?=some (.cells #[.bool lf,.int .i64 pg,.slice ka kn kc,.slice va vn vc,.slice oa on oc,.slice ya yn yc] 103)):=kX
   clear hal d0 d1 d2 d3 d4 d5 kX
   refine wp_region_noPanic ?_
   refine wp_region_held_drew (S:=(fun V:World=>V.cell? ⟨wr.heap.size,1,none⟩=some (.int .i64 pg)∧V.cell? ⟨wr.heap.size,4,none⟩=some (.slice oa on oc))) (by kernel_rfl) (⟨by simpa using z1,by simpa using z4⟩) (fun hHeld=>?_)
   clear hHeld
   generalize W5.drew=V at bV0 ⊢
   have HVB:Hid (Below wr.heap.size wr V):=HW5.out.trans (bV0.mono HW5.out.size)
   have hsV:=HVB.out.size
   have lXV:wr.heap.size<V.heap.size:=by have:=bV0.size;omega
   have HKV:Hid (V.heap[wr.heap.size]?=some (.cells #[.bool lf,.int .i64 pg,.slice ka kn kc,.slice va vn vc,.slice oa on oc,.slice ya yn yc] 103)):=(bV0.block _ lX).trans HKX.out
   have hHeld:V.cell? ⟨wr.heap.size,1,none⟩=some (.int .i64 pg)∧V.cell? ⟨wr.heap.size,4,none⟩=some (.slice oa on oc):=by
    obtain⟨y0,y1,y2,y3,y4,y5⟩:=box6g HKV.out
    exact⟨y1,y4⟩
   clear bV0 z0 z1 z2 z3 z4 z5
   refine tY 0 (.slice ua m uc) .z (by kernel_rfl) (by rfl) ?_ ‹_› ?_
   ·intro wq hSw;go_simp
   refine tY 1 (.pointer (some ⟨wr.heap.size,1,none⟩)) (.s .z) (by kernel_rfl) (by rfl) ?_ ‹_› ?_
   ·intro wq hSw;go_simp
   refine tY 2 (.int .i64 pg) (.s (.s .z)) (by kernel_rfl) (by rfl) ?_ ‹_› ?_
   ·intro wq hSw;go_simp
   refine tY 5 (.pointer (some ⟨wr.heap.size,4,none⟩)) (.f .z) (by kernel_rfl) (by rfl) ?_ ‹_› ?_
   ·intro wq hSw;go_simp
   try simp only[Act.put,q1,q2,q3]
   refine tY 6 (.slice oa on oc) (.f (.s .z)) (by kernel_rfl) (by rfl) ?_ ‹_› ?_
   ·intro wq hSw;go_simp
   try simp only[Act.put,q1,q2,q3]
   refine wpAnyH_ready (rs:=[3]) (by kernel_rfl) (by simp) ?_
   refine rdA (.s (.s (.s .z))) (fun K hK=>?_) AllReadyH.nil
   go_simp
   have HAL:Hid (Below V.heap.size V (V.alloc (.cells #[.int .i64 pg] 2))):=(Below.refl V.heap.size V).alloc (Nat.le_refl _) _
   have HKA:Hid ((V.alloc (.cells #[.int .i64 pg] 2)).heap[wr.heap.size]?=some (.cells #[.bool lf,.int .i64 pg,.slice ka kn kc,.slice va vn vc,.slice oa on oc,.slice ya yn yc] 103)):=(HAL.out.block _ lXV).trans HKV.out
   have HRA:Hid ((V.alloc (.cells #[.int .i64 pg] 2)).ownsRow (N+1) 2 1 (.slice ua m uc) m (rowsOf intCells (tk++(ts.take j).flatMap pgsN))):=owns_below (owns_below HO.out HVB.out) HAL.out
   have hsA:wr.heap.size<(V.alloc (.cells #[.int .i64 pg] 2)).heap.size:=by simp;omega
   refine hK.out _ _ ((by obtain⟨y0,y1,y2,y3,y4,y5⟩:=box6g (HKA.out);exact⟨y1,y4⟩)) (fun hHeld=>?_)
   clear hK K
   try simp only[Act.put,q1,q2,q3]
   refine wpAnyH_ready (rs:=[4]) (by kernel_rfl) (by simp) ?_
   refine rdA (.s (.s (.s (.s .z)))) (fun K hK=>?_) AllReadyH.nil
   refine step_append_T rfl _ _ 25 rfl (N+1) 2 ii _ 1 8 Tryz.underlying25 hii hj0 hj1 hj2 rfl (by decide) (.slice ua m uc) m _ (by simp[Act.eval]) HRA.out ⟨V.heap.size,0,none⟩ 1 1 [.int .i64 pg] (by simp[Act.eval]) rfl (cell_one_newI _ _ _) (by simp[Value.oneCell']) (by unfold maxLen;omega) (by omega) (by omega) ?_
   intro u7 w7 ho7 hg7 hl7
   obtain⟨g7,c7,rfl⟩:=own_shape ho7
   have hK7:w7.heap[wr.heap.size]?=_:=(hg7.block _ hsA (fun e=>own_ne_ty HRA.out HKA.out (by decide) e.symm)).trans HKA.out
   have HF7:Hid (Fr (fun g=>(Value.slice ua m uc).ownBlock=some g) wr w7):=(Fr.of_below HVB.out).trans ((Fr.of_below HAL.out).trans (Fr.of_grown hg7 (fun g e=>e)))
   have HO7:Hid (w7.ownsRow (N+1) 2 1 (.slice g7 (m+1) c7) (m+1) (rowsOf intCells (tk++(ts.take j).flatMap pgsN)++[.int .i64 pg])):=ho7
   have HBN7:Hid (Below N w w7):=HBr.out.trans (HF7.out.below (by omega) (fun g e=>by have:=(HO.out.lt g e).1;omega))
   have HBB7:Hid (Below (N+1) wr w7):=HF7.out.below (by omega) (fun g e=>(HO.out.lt g e).1)
   have hs7:wr.heap.size<=w7.heap.size:=HF7.out.size
   have HK7:Hid (w7.heap[wr.heap.size]?=some (.cells #[.bool lf,.int .i64 pg,.slice ka kn kc,.slice va vn vc,.slice oa on oc,.slice ya yn yc] 103)):=hK7
   clear ho7 hg7 hl7 hK7
   refine hK.out _ _ ((by obtain⟨y0,y1,y2,y3,y4,y5⟩:=box6g (HK7.out);exact⟨y1,y4⟩)) (fun hHeld=>?_)
   clear hK K
   try simp only[Act.put,q1,q2,q3]
   refine wpAnyH_ready (rs:=[7]) (by kernel_rfl) (by simp) ?_
   refine rdA (.f (.s (.s .z))) (fun K hK=>?_) AllReadyH.nil
   refine step_append_L rfl _ _ 25 rfl (N+1) 2 ii _ 1 8 Tryz.underlying25 hii hj0 hj1 hj2 rfl (by decide) (by omega) (.slice g7 (m+1) c7) (m+1) _ (by simp[Act.eval]) HO7.out (by omega) (.slice oa on oc) B on (rowsOf intCells (ts.getD j dT).over) (by simp[Act.eval]) (HOS.out _ HBN7.out) (by omega) ?_
   intro u8 w8 ho8 hg8 hl8
   obtain⟨g8,c8,rfl⟩:=own_shape ho8
   have HB8:Hid (Below N w w8):=HBN7.out.trans ((Fr.of_grown (S:=fun g=>N<=g) hg8 (fun g e=>by have:=(HO7.out.lt g e).1;omega)).below (by omega) (fun g e=>e))
   have hs8:w7.heap.size<=w8.heap.size:=hg8.size
   have hK8:w8.heap[wr.heap.size]?=_:=(hg8.block _ (Array.getElem?_eq_some_iff.1 HK7.out).1 (fun e=>own_ne_ty HO7.out HK7.out (by decide) e.symm)).trans HK7.out
   have HO8:Hid (w8.ownsRow (N+1) 2 1 (.slice g8 (m+1+on) c8) (m+1+on) (rowsOf intCells (tk++(ts.take (j+1)).flatMap pgsN))):=by
    show World.ownsRow _ _ _ _ _ _ _
    rw[take_flat (by rw[HTL.out.2];exact hlt),<-List.append_assoc,rowsOf_append,pgsN,HPG.out]
    have e1:rowsOf intCells (pg::(ts.getD j dT).over)=[.int .i64 pg]++rowsOf intCells (ts.getD j dT).over:=rfl
    rw[e1,<-List.append_assoc]
    exact ho8
   clear ho8 hg8 hl8
   refine hK.out _ _ ((by obtain⟨y0,y1,y2,y3,y4,y5⟩:=box6g (hK8);exact⟨y1,y4⟩)) (fun hHeld=>?_)
   clear hK K
   refine tY 8 (.slice g8 (m+1+on) c8) (.f (.s (.s (.s .z)))) (by kernel_rfl) (by rfl) ?_ ‹_› ?_
   ·intro wq hSw;go_simp
   try simp only[Act.put,q1,q2,q3]
   refine wpAnyH_done (by kernel_rfl) ?_ _
   refine NoPanic.normal ?_
   clear hHeld
   go_wp2_with fail
   go_roundw
   case rel=>exact⟨j+1,m+1+on,g8,c8,by omega,by go_num,rfl,by omega,by omega,by show _=_;have:=HO8.out.1;rw[rowsOf_length (m:=1) (cs:=intCells) (fun _=>rfl)] at this;omega,HO8,HB8⟩
   case measure=>simp[intOf];omega
  ·obtain rfl:j=n:=by omega
   obtain⟨fl,hfl⟩:∃ fl,tk++(ts.take j).flatMap pgsN=fl:=⟨_,rfl⟩
   rw[hfl] at HM HO
   have HFL:Hid (tk++ts.flatMap pgsN=fl):=by show _=_;rw[<-hfl,<-HTL.out.2,List.take_length]
   have hm1:1<=m:=by
    rw[HM.out,<-hfl,List.length_append]
    have:((ts.take j).flatMap pgsN).length=((ts.take j).map (fun x=>(pgsN x).length)).sum:=by rw[List.length_flatMap]
    have h2:ts≠[]:=fun e=>by have:=HTL.out.2;rw[e] at this;simp at this;omega
    obtain⟨t0,r0,rfl⟩:=List.exists_cons_of_ne_nil h2
    rw[<-HTL.out.2,List.take_length]
    simp[pgsN]
    omega
   have hso:=sortInts_any wr (N+1) (.slice ua m uc) fl (by rw[<-HM.out];omega) (by rw[<-HM.out];exact HO.out)
   obtain⟨G,rfl⟩:=owns_someD HO.out hm1
   have hGr:=HO.out.lt G rfl
   clear hfl
   go_wp2_with fail
   refine hso.mono ?_
   rintro e w5 ⟨rfl,ho5,hg5⟩
   obtain⟨so,hsoE⟩:∃ so,(fl.mergeSort fun x y=>decide (x<=y))=so:=⟨_,rfl⟩
   have HSO:Hid (so.Pairwise (·<=·)∧so.Perm fl∧so.length=m):=by
    rw[<-hsoE]
    exact⟨sorted_ms fl,List.mergeSort_perm ..,by simp[HM.out]⟩
   rw[hsoE,<-HM.out] at ho5
   have HO5:Hid (w5.ownsRow (N+1) 2 1 (.slice (some ⟨G,0,none⟩) m uc) m (rowsOf intCells so)):=ho5
   have HB5:Hid (Below N w w5):=HBr.out.trans ((Fr.of_grown (S:=fun g=>g=G) hg5 (fun g e=>by simpa[Value.ownBlock] using e.symm)).below (by omega) (fun g e=>by omega))
   have hs5:wr.heap.size<=w5.heap.size:=hg5.size
   clear ho5 hg5 hsoE hso HO HM HBr
   go_wp2_with fail
   refine (newPages_anyI w5).mono ?_
   rintro e w6 ⟨rfl,hb6⟩
   have HB6:Hid (Below w5.heap.size w5 w6):=hb6
   clear hb6
   go_wp2_with fail
   go_loopw [8,9] (fun o k wq=>∃ (i q:Nat) (fa:Option Addr) (fc:Nat),i<=998∧k=.int .i64 ((2+i:Nat):Int)∧o=.slice fa q fc∧q<=i∧Hid (q=(freeTo fl i).length)∧Hid (wq.ownsRow w5.heap.size 2 1 (.slice fa q fc) q (rowsOf intCells (freeTo fl i)))∧Hid (Below w5.heap.size w5 wq)) (fun _ k _=>1000 - (intOf k).toNat)
   case atStart=>exact⟨0,0,none,0,Nat.zero_le _,rfl,rfl,Nat.le_refl _,rfl,owns_nilI _ _ _ _,HB6⟩
   case round =>
    clear HB6
    obtain⟨i,q,fa,fc,hi,rfl,rfl,hq,HQ,HFO,HBq⟩:=hrel
    have hsq:=HBq.out.size
    go_wp2_with fail
    refine (newPages_anyI wr).mono ?_
    rintro e w7 ⟨rfl,hb7⟩
    have HB7:Hid (Below w5.heap.size w5 w7):=HBq.out.trans (hb7.mono hsq)
    have HFO7:Hid (w7.ownsRow w5.heap.size 2 1 (.slice fa q fc) q (rowsOf intCells (freeTo fl i))):=owns_below HFO.out hb7
    have hs7:w5.heap.size<=w7.heap.size:=Nat.le_trans hsq hb7.size
    clear hb7 HFO HBq
    by_cases hi9:i<998
    ·have hse:=searchInts_any w7 (N+1) G m uc so fl ((2+i:Nat):Int) HSO.out.2.2 HSO.out.2.1 HSO.out.1 (by omega) (owns_below HO5.out HB7.out)
     by_cases hmem:((2+i:Nat):Int) ∈ fl
     ·rw[decide_eq_true hmem] at hse
      have HFT:Hid (freeTo fl (i+1)=freeTo fl i):=freeTo_in hmem
      clear hmem
      go_wp2_with fail
      refine hse.mono ?_
      rintro e w8 ⟨⟨k8,rfl⟩,hb8⟩
      have HB8:Hid (Below w5.heap.size w5 w8):=HB7.out.trans (hb8.mono hs7)
      have HFO8:Hid (w8.ownsRow w5.heap.size 2 1 (.slice fa q fc) q (rowsOf intCells (freeTo fl i))):=owns_below HFO7.out hb8
      clear hb8 hse
      go_wp2_with fail
      go_roundw
      case rel=>exact⟨i+1,q,fa,fc,by omega,by go_num,rfl,by omega,by show _=_;rw[HFT.out];exact HQ.out,by show World.ownsRow _ _ _ _ _ _ _;rw[HFT.out];exact HFO8.out,HB8⟩
      case measure=>simp[intOf];omega
     ·rw[decide_eq_false hmem] at hse
      have HFT:Hid (freeTo fl (i+1)=freeTo fl i++[((2+i:Nat):Int)]):=freeTo_out hmem
      clear hmem
      go_wp2_with fail
      refine hse.mono ?_
      rintro e w8 ⟨⟨k8,rfl⟩,hb8⟩
      have HB8:Hid (Below w5.heap.size w5 w8):=HB7.out.trans (hb8.mono hs7)
      have hs8:=HB8.out.size
      have HFO8:Hid ((w8.alloc (.cells #[.int .i64 ((2+i:Nat):Int)] 2)).ownsRow w5.heap.size 2 1 (.slice fa q fc) q (rowsOf intCells (freeTo fl i))):=owns_below (owns_below HFO7.out hb8) ((Below.refl _ _).alloc (Nat.le_refl _) _)
      clear hb8 hse
      go_wp2_with (at_builtin;refine wpList_append_ownD _ rfl _ _ 25 rfl w5.heap.size 2 ii _ 1 8 Tryz.underlying25 hii hj0 hj1 hj2 rfl (by decide) (.slice fa q fc) q _ rfl HFO8.out ⟨w8.heap.size,0,none⟩ 1 1 [.int .i64 ((2+i:Nat):Int)] rfl rfl (cell_one_newI _ _ _) (by simp[Value.oneCell']) (by unfold maxLen;omega) (by omega) (by simp;omega) ?_;intro v9 w9 ho9 hg9 hl9;obtain⟨g9,c9,rfl⟩:=own_shape ho9)
      have HB9:Hid (Below w5.heap.size w5 w9):=HB8.out.trans (((Below.refl w8.heap.size w8).alloc (Nat.le_refl _) (.cells #[.int .i64 ((2+i:Nat):Int)] 2)).mono hs8 |>.trans ((Fr.of_grown (S:=fun g=>w5.heap.size<=g) hg9 (fun g e=>(HFO8.out.lt g e).1)).below (by simp;omega) (fun g e=>e)))
      have HFO9:Hid (w9.ownsRow w5.heap.size 2 1 (.slice g9 (q+1) c9) (q+1) (rowsOf intCells (freeTo fl (i+1)))):=by
       show World.ownsRow _ _ _ _ _ _ _
       rw[HFT.out,rowsOf_append]
       exact ho9
      clear ho9 hg9 hl9
      go_wp2_with fail
      go_roundw
      case rel=>exact⟨i+1,q+1,g9,c9,by omega,by go_num,rfl,by omega,by show _=_;rw[HFT.out,List.length_append,<-HQ.out];rfl,HFO9,HB9⟩
      case measure=>simp[intOf];omega
    ·obtain rfl:i=998:=by omega
     go_wp2_with fail
     go_ret
     refine⟨fa,q,fc,rfl,by rw[HFL.out];exact own_lowerT HFO7.out (by omega),?_⟩
     rw[hN]
     exact HB5.out.trans (HB7.out.mono (by omega))
end Go.Proofs.YtkhglgalbifcnaaGreat
