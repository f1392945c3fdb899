import Derived.Test.YtggmghkcdfjdoaaGreatChecked
import Derived.Below
import Derived.Deep.RegionHeld3
namespace Go.Proofs.YtggmghkcdfjdoaaGreat
open Go.RowKit
set_option linter.unusedVariables false
set_option maxRecDepth 100000
variable {P:Program} {Q:Exit->Act->World->Prop} {S:World->Prop} {a:Act} {b c d e g o oi:Oper} {fuel i:Nat} {l r:List Oper} {listed:Array Bool} {ops:Array Oper} {v:Value} {w:World}
/-- The operation at a place of a list. -/
def At (l:List Oper) (i:Nat) (o:Oper):Prop:=l[i]?=some o
theorem At.z:At (o::r) 0 o:=rfl
theorem At.s {a:Oper} (h:At r i o):At (a::r) (i+1) o:=h
theorem At.f {a:Oper} (h:At r i o):At (a::b::c::d::e::r) (i+5) o:=.s (.s (.s (.s (.s h))))
theorem At.t {a a' f c' g j:Oper} (h:At r i o):At (a::b::c::d::e::a'::f::c'::g::j::r) (i+10) o:=.f (.f h)
theorem At.get (h:At l i o):l.toArray[i]?=some o:=by
  unfold At at h;simpa using h
theorem DL {b:Region.Mode} (d:At l i oi)
    (e:Region.noSelect l.toArray=true) (f:Region.free b l.toArray listed i=true) (g:(Region.ready b l.toArray listed).contains i=true)
    (j:∀ c a w,Q (.panic c) (a.put oi.dst v) w->Q (.panic c) a w) (k:YieldsIf P l.toArray S oi v a) (m:S w)
    (h:wpAnyH P b l.toArray Q S fuel (listed.setIfInBounds i true) (a.put oi.dst v) w):wpAnyH P b l.toArray Q S (fuel+1) listed a w :=
  wpAnyH_take d.get e f g j k m h
theorem un {b:Region.Mode} (e:At l i oi)
    (d:(Region.noSelect l.toArray && Region.free b l.toArray listed i && (Region.ready b l.toArray listed).contains i)=true)
    (f:∀ c a w,Q (.panic c) (a.put oi.dst v) w->Q (.panic c) a w) (g:YieldsIf P l.toArray S oi v a) (j:S w)
    (h:wpAnyH P b l.toArray Q S fuel (listed.setIfInBounds i true) (a.put oi.dst v) w):wpAnyH P b l.toArray Q S (fuel+1) listed a w:=by
  simp only[Bool.and_eq_true] at d;exact wpAnyH_take e.get d.1.1 d.1.2 d.2 f g j h
theorem tY {b:Region.Mode} (i:Nat) (v:Value) (c:At l i oi)
    (d:(Region.noSelect l.toArray && Region.free b l.toArray listed i && (Region.ready b l.toArray listed).contains i)=true)
    (e:Region.wanted oi (yielded l.toArray a.tmps)=true) (f:∀ w,S w->(execOp a.eval oi).run P w=.ok (.value v) w) (g:S w)
    (h:wpAnyH P b l.toArray (NoPanic Q) S fuel (listed.setIfInBounds i true) (a.put oi.dst v) w):wpAnyH P b l.toArray (NoPanic Q) S (fuel+1) listed a w :=
  un c d (fun _ _ _ h=>h) (Or.inl ⟨e,f⟩) g h
theorem tS {b:Region.Mode} (i:Nat) (c:At l i oi)
    (d:(Region.noSelect l.toArray && Region.free b l.toArray listed i && (Region.ready b l.toArray listed).contains i)=true)
    (e:Region.wanted oi (yielded l.toArray a.tmps)=false) (f:S w)
    (h:wpAnyH P b l.toArray (NoPanic Q) S fuel (listed.setIfInBounds i true) (a.put oi.dst undef) w):wpAnyH P b l.toArray (NoPanic Q) S (fuel+1) listed a w :=
  un c d (fun _ _ _ h=>h) (Or.inr ⟨e,rfl⟩) f h
theorem tV {b:Region.Mode} (i:Nat) (v:Value) (c:At l i oi)
    (h:wpAnyH P b l.toArray (NoPanic Q) S fuel (listed.setIfInBounds i true) (a.put oi.dst v) w)
    (d:(Region.noSelect l.toArray && Region.free b l.toArray listed i && (Region.ready b l.toArray listed).contains i)=true:=by kernel_rfl)
    (e:Region.wanted oi (yielded l.toArray a.tmps)=true:=by rfl) (f:∀ w,S w->(execOp a.eval oi).run P w=.ok (.value v) w:=by intro wq hSw;go_simp) (g:S w:=by assumption):wpAnyH P b l.toArray (NoPanic Q) S (fuel+1) listed a w :=
  un c d (fun _ _ _ h=>h) (Or.inl ⟨e,f⟩) g h
theorem tU {b:Region.Mode} (i:Nat) (c:At l i oi)
    (h:wpAnyH P b l.toArray (NoPanic Q) S fuel (listed.setIfInBounds i true) (a.put oi.dst undef) w)
    (d:(Region.noSelect l.toArray && Region.free b l.toArray listed i && (Region.ready b l.toArray listed).contains i)=true:=by kernel_rfl)
    (e:Region.wanted oi (yielded l.toArray a.tmps)=false:=by rfl) (f:S w:=by assumption):wpAnyH P b l.toArray (NoPanic Q) S (fuel+1) listed a w :=
  un c d (fun _ _ _ h=>h) (Or.inr ⟨e,rfl⟩) f h
theorem hidI {p:Prop} (h:p):Hid p:=h
theorem q1 {b:Type} (l:List b) (i:Nat) (a:b):l.toArray.setIfInBounds i a=(l.set i a).toArray:=List.setIfInBounds_toArray ..
theorem q2 {c:Type} (l:List c) (a b:c):(a::l).set 0 b=b::l:=rfl
theorem q3 {c:Type} (l:List c) (i:Nat) (a b:c):(a::l).set (i+1) b=a::l.set i b:=rfl
theorem Zq:(∀ (a:Act) (i:Tmp) (v:Value),a.put (some i) v={ a with tmps:=a.tmps.setIfInBounds i v })∧(∀ (a:Act) (v:Value),a.put none v=a)∧(∀ {c:Type} (l:List c) (i:Nat) (a:c),l.toArray.setIfInBounds i a=(l.set i a).toArray)∧(∀ {c:Type} (l:List c) (a b:c),(a::l).set 0 b=b::l)∧∀ {c:Type} (l:List c) (i:Nat) (a b:c),(a::l).set (i+1) b=a::l.set i b:=⟨fun _ _ _=>rfl,fun _ _=>rfl,q1,q2,q3⟩
theorem rdA {b:Region.Mode} {c:List Nat} (d:At l i o)
    (h:∀ K':Act->World->Prop,Shut (∀ a w,S w->(S w->wpAnyH P b l.toArray Q S fuel (listed.setIfInBounds i true) a w)->K' a w)->if Region.wanted o (yielded l.toArray a.tmps)=true then Oper.wp P o a w K' Q else K' (a.put o.dst undef) w)
    (e:AllReadyH P b l.toArray Q S fuel listed a w c):AllReadyH P b l.toArray Q S fuel listed a w (i::c):=AllReadyH.cons d.get h e
theorem At.a0:At (o::r) 0 o:=rfl
theorem At.a1 {a:Oper}:At (a::o::r) 1 o:=rfl
theorem At.a2 {a:Oper}:At (a::b::o::r) 2 o:=rfl
theorem At.a3 {a:Oper}:At (a::b::c::o::r) 3 o:=rfl
theorem At.a4 {a:Oper}:At (a::b::c::d::o::r) 4 o:=rfl
theorem At.a5 {a:Oper}:At (a::b::c::d::e::o::r) 5 o:=rfl
theorem At.a6 {a f:Oper}:At (a::b::c::d::e::f::o::r) 6 o:=rfl
theorem At.a7 {a f:Oper}:At (a::b::c::d::e::f::g::o::r) 7 o:=rfl
theorem At.a8 {a f h:Oper}:At (a::b::c::d::e::f::g::h::o::r) 8 o:=rfl
theorem At.a9 {a f h i:Oper}:At (a::b::c::d::e::f::g::h::i::o::r) 9 o:=rfl
theorem Zx {b:Region.Mode} (c:At l i oi) (h:wpAnyH P b l.toArray (NoPanic Q) S fuel (listed.setIfInBounds i true) (a.put oi.dst v) w) (d:(Region.noSelect l.toArray && Region.free b l.toArray listed i && (Region.ready b l.toArray listed).contains i)=true:=by kernel_rfl)
    (e:Region.wanted oi (yielded l.toArray a.tmps)=true:=by rfl) (f:∀ w,S w->(execOp a.eval oi).run P w=.ok (.value v) w:=by intro wq hSw;go_simp<;>with_reducible rfl) (g:S w:=by assumption):wpAnyH P b l.toArray (NoPanic Q) S (fuel+1) listed a w :=
  un c d (fun _ _ _ h=>h) (Or.inl ⟨e,f⟩) g h
theorem Zu {b:Region.Mode} (c:At l i oi) (h:wpAnyH P b l.toArray (NoPanic Q) S fuel (listed.setIfInBounds i true) (a.put oi.dst undef) w) (d:(Region.noSelect l.toArray && Region.free b l.toArray listed i && (Region.ready b l.toArray listed).contains i)=true:=by kernel_rfl)
    (e:Region.wanted oi (yielded l.toArray a.tmps)=false:=by rfl) (f:S w:=by assumption):wpAnyH P b l.toArray (NoPanic Q) S (fuel+1) listed a w :=
  un c d (fun _ _ _ h=>h) (Or.inr ⟨e,rfl⟩) f h
theorem Zy {b:Region.Mode} (c:At l i oi) (d:∀ w,S w->(execOp a.eval oi).run P w=.ok (.value v) w) (h:wpAnyH P b l.toArray (NoPanic Q) S fuel (listed.setIfInBounds i true) (a.put oi.dst v) w) (e:(Region.noSelect l.toArray && Region.free b l.toArray listed i && (Region.ready b l.toArray listed).contains i)=true:=by kernel_rfl)
    (f:Region.wanted oi (yielded l.toArray a.tmps)=true:=by rfl) (g:S w:=by assumption):wpAnyH P b l.toArray (NoPanic Q) S (fuel+1) listed a w :=
  un c e (fun _ _ _ h=>h) (Or.inl ⟨f,d⟩) g h
theorem Zw {b:Region.Mode} (v:Value) {i:Nat} (c:At l i oi) (d:∀ w,S w->(execOp a.eval oi).run P w=.ok (.value v) w) (h:wpAnyH P b l.toArray (NoPanic Q) S fuel (listed.setIfInBounds i true) (a.put oi.dst v) w) (e:(Region.noSelect l.toArray && Region.free b l.toArray listed i && (Region.ready b l.toArray listed).contains i)=true:=by kernel_rfl)
    (f:Region.wanted oi (yielded l.toArray a.tmps)=true:=by rfl) (g:S w:=by assumption):wpAnyH P b l.toArray (NoPanic Q) S (fuel+1) listed a w :=
  un c e (fun _ _ _ h=>h) (Or.inl ⟨f,d⟩) g h
theorem Za {c:Type} {a:Array c} {b:c} (h:a[i]?=some b):i<a.size:=(Array.getElem?_eq_some_iff.1 h).1
theorem Zc {c:Type} {a:List c} {b:c} (h:a[i]?=some b):i<a.length:=(List.getElem?_eq_some_iff.1 h).1
theorem Zb (w:World) (o:Obj):Below w.heap.size w (w.alloc o):=(Below.refl _ _).alloc (Nat.le_refl _) _
theorem Zn {a:Type} (e:a):∃ b,e=b:=⟨_,rfl⟩
theorem Zd {b:Region.Mode} (h:Q .normal a w) (c:Region.ready b ops listed=[]:=by kernel_rfl):wpAnyH P b ops (NoPanic Q) S fuel listed a w:=wpAnyH_done c (NoPanic.normal h) _
theorem Zg {b:Nat} (S:World->Prop) (c:S w.drew) (h:S w.drew->wpAnyH P .any ops (NoPanic Q) S ops.size (Array.replicate ops.size false) a w.drew) (d:P.follows .mixedOrders=true:=by kernel_rfl):(Code.region b ops true).wp P Q a w:=wp_region_noPanic (wp_region_held_drew d c h)
abbrev Zs (lf:Bool) (pg:Int) (ka:Option Addr) (kn kc:Nat) (va:Option Addr) (vn vc:Nat) (oa:Option Addr) (on oc:Nat) (ya:Option Addr) (yn yc:Nat):Array Value:=#[.bool lf,.int .i64 pg,.slice ka kn kc,.slice va vn vc,.slice oa on oc,.slice ya yn yc]
abbrev Z0 (lf:Bool) (pg:Int):Array Value:=Zs lf pg none 0 0 none 0 0 none 0 0 none 0 0
theorem Zr {b:Region.Mode} (c:List Nat) (h:AllReadyH P b ops Q S fuel listed a w c) (d:Region.ready b ops listed=c:=by kernel_rfl) (e:c≠[]:=by simp):wpAnyH P b ops Q S (fuel+1) listed a w:=wpAnyH_ready d e h
theorem Zp {b:Region.Mode} (c:List Nat) (h:AllReadyH P b ops Q S fuel listed a w c) (d:Region.ready b ops listed=c:=by decide +kernel) (e:c≠[]:=by simp):wpAnyH P b ops Q S (fuel+1) listed a w:=wpAnyH_ready d e h
def Mk (i:Nat):Prop:=i=i
theorem rdB {b:Region.Mode} {c:List Nat} (d:AllReadyH P b l.toArray Q S fuel listed a w c) (e:At l i o)
    (h:∀ K':Act->World->Prop,Shut (∀ a w,S w->(S w->wpAnyH P b l.toArray Q S fuel (listed.setIfInBounds i true) a w)->K' a w)->Mk i->if Region.wanted o (yielded l.toArray a.tmps)=true then Oper.wp P o a w K' Q else K' (a.put o.dst undef) w):AllReadyH P b l.toArray Q S fuel listed a w (i::c):=AllReadyH.cons e.get (fun f g=>h f g rfl) d
theorem Eh:∀ {a:Type _} {l:List a} {i:Nat} (b:i<l.length),l[i]?=some l[i]:=@List.getElem?_eq_getElem
theorem Ei:∀ {P:Program} {ops:Array Oper} {Q:Exit->Act->World->Prop} {b:Region.Mode} {S:World->Prop} {fuel:Nat} {listed:Array Bool} {a:Act} {w:World},AllReadyH P b ops Q S fuel listed a w []:=@AllReadyH.nil
theorem Ej:∀ (w:World) (o:Obj),(w.alloc o).heap[w.heap.size]?=some o:=@heap_alloc_new
theorem Ek:∀ (a:Nat),a<=a:=@Nat.le_refl
theorem El:∀ {c:Type _} {a b:List c},(a++b).length=a.length+b.length:=@List.length_append
theorem Em:∀ (a b:Bool),((a && b)=true)=(a=true∧b=true):=@Bool.and_eq_true
theorem En:∀ (a:Nat),0<=a:=@Nat.zero_le
theorem Eo:∀ {a b c:Nat},a<=b->b<=c->a<=c:=@Nat.le_trans
theorem Ep:∀ {w b:World} {a:Addr},b.heap[a.block]?=w.heap[a.block]?->b.cell? a=w.cell? a:=@World.cell?_of_block
theorem Er:∀ {a b c:Nat},a<b->b<=c->a<c:=@Nat.lt_of_lt_of_le
theorem Es:∀ {a:Prop} [inst:Decidable a],(decide a=true)=a:=@decide_eq_true_eq
theorem Et:∀ {b:Type _} {a:b} {l:List b},a∈a::l:=@List.mem_cons_self
theorem Eu:∀ {a:Type _} {i:Nat} {l:List a},(List.take i l).length=min i l.length:=@List.length_take
theorem Ev:∀ (a:Nat) (w:World),Below a w w:=@Below.refl
theorem Ew:∀ {b:Type _} {l:List b} {i:Nat} {a:b},l[i]?=some a->a∈l:=@List.mem_of_getElem?
theorem Ex:∀ {b:Type _} {d:Type _} {c:b->d} {a:b} {l:List b},List.map c (a::l)=c a::List.map c l:=@List.map_cons
theorem Ey:∀ {a:Type _} {i:Nat} {l:List a},l.length<=i->List.take i l=l:=@List.take_of_length_le
theorem Ez:∀ {a:Type _} {b:a->Bool} {l:List a},l.all b=true↔∀ (c:a),c∈l->b c=true:=@List.all_eq_true
theorem EA:∀ {d:Type _} (a b c:List d),a++b++c=a++(b++c):=@List.append_assoc
theorem EB:∀ {c:Type _} {a b:List c} {i:Nat},a.length<=i->(a++b)[i]?=b[i - a.length]?:=@List.getElem?_append_right
theorem EC:(false=true)=False:=@Bool.false_eq_true
theorem ED:∀ {b:Type _} (a:List b),[]++a=a:=@List.nil_append
theorem EE:∀ {b:Type _} {a c:List b} {i:Nat},i<a.length->(a++c)[i]?=a[i]?:=@List.getElem?_append_left
theorem EF:∀ {b:Type _} {a:b} {i:Nat} {l:List b},a∈List.drop i l->a∈l:=@List.mem_of_mem_drop
theorem EG:∀ {b:Type _} {a:b} {c d:List b},a∈c++d↔a∈c∨a∈d:=@List.mem_append
theorem EH:∀ {b:Type _} (c:b) {a:b} {l:List b},a∈l->a∈c::l:=@List.mem_cons_of_mem
theorem EI:∀ {b:Type _} {i:Nat} {a:b} {l:List b},a∈List.take i l->a∈l:=@List.mem_of_mem_take
theorem EK:∀ (a:Nat),0+a=a:=@Nat.zero_add
theorem EL:∀ {c:Type _} {b:c} {l:List c} {a:c},a∈b::l↔a=b∨a∈l:=@List.mem_cons
theorem EM:∀ {b:Type _} {a c:List b} {i:Nat},i<=a.length->List.take i (a++c)=List.take i a:=@List.take_append_of_le_length
theorem EN:∀ {b:Type _} (a:List b),a++[]=a:=@List.append_nil
theorem EO:∀ {a:Sort _} {c:Decidable False} (b e:a),(if False then b else e)=e:=@if_false
theorem EP:∀ {b:Type _} {c:List b} {i:Nat} {a:b},(c.set i a).length=c.length:=@List.length_set
theorem EQ:∀ {b:Type _} {i:Nat} {a:b} {l:List b},l[i]?=some a↔∃ c,l[i]=a:=@List.getElem?_eq_some_iff
theorem ER:∀ {a:Type _} {i:Nat} {l:List a} (b:i<l.length),List.take (i+1) l=List.take i l++[l[i]]:=@List.take_succ_eq_append_getElem
theorem ET:∀ {a:Type _} {i:Nat} {l:List a},(List.drop i l).length=l.length - i:=@List.length_drop
theorem EU:∀ {b:Type _} {a:b} {c:List b},(a::c).length=c.length+1:=@List.length_cons
theorem EV:∀ {a:Type _} (i:Nat) (l:List a),List.take i l++List.drop i l=l:=@List.take_append_drop
theorem EW:∀ {a:Type _} {l:List a} {b:List (List a)},(l::b).flatten=l++b.flatten:=@List.flatten_cons
theorem EX:∀ {a:Type _} {l:List a},l ≠ []->∃ b c,l=b::c:=@List.exists_cons_of_ne_nil
theorem EY:∀ {c:Type _} {d:Type _} {b:d} {e:c->d} {l:List c},b∈List.map e l↔∃ a,a∈l∧e a=b:=@List.mem_map
theorem EZ:∀ {a:Type _} {c:Type _} {b:List a} (d:a->c),(List.map d b).length=b.length:=@List.length_map
theorem E2:∀ {c:Type _} {a:List c} {i b:Nat},(List.drop i a)[b]?=a[i+b]?:=@List.getElem?_drop
theorem E4:∀ {b:Type _} {l:List b} {a:Nat} (c:a<l.length),l[a]∈l:=@List.getElem_mem
theorem E5:∀ {b:Type _} {e:Type _} {a:b->e} {c d:List b},List.map a (c++d)=List.map a c++List.map a d:=@List.map_append
theorem E6:∀ {a:Type _} {b:Type _} {c:a->b},List.map c []=[]:=@List.map_nil
theorem E7:∀ {a:Type _} {l:List a},l.length=0->l=[]:=@List.eq_nil_of_length_eq_zero
theorem E8:∀ (b:Bool),(false || b)=b:=@Bool.false_or
theorem E9:∀ {b:Type _} {l:List b} {i a:Nat},(List.take i l)[a]?=if a<i then l[a]? else none:=@List.getElem?_take
theorem Fa:∀ (a:Int),IntKind.i64.wrap a=(a+9223372036854775808) % 18446744073709551616 - 9223372036854775808:=@IntKind.wrap_i64
theorem Fc:∀ {c:Type _} {a b:List (List c)},(a++b).flatten=a.flatten++b.flatten:=@List.flatten_append
theorem Fd:∀ {c:Type _} {d:Array c} {i b:Nat},i ≠ b->∀ {a:c},(d.setIfInBounds i a)[b]?=d[b]?:=@Array.getElem?_setIfInBounds_ne
theorem Fe:∀ {e:Type _} {a b c d:List e},a.Sublist b->c.Sublist d->(a++c).Sublist (b++d):=@List.Sublist.append
theorem Ff:∀ {b:Type _} [inst:Add b] [inst_1:Zero b] {a:b} {l:List b},(a::l).sum=a+l.sum:=@List.sum_cons
theorem Fg:(!true)=false:=@Bool.not_true
theorem Fh:∀ {c:Type _} {a b:List c} {i:Nat},i<=a.length->List.drop i (a++b)=List.drop i a++b:=@List.drop_append_of_le_length
theorem Fj:∀ {b:Type _} {a:b} {c d:List b},a::c++d=a::(c++d):=@List.cons_append
theorem Fk:∀ {a:Type _} (l:List a),l.Sublist l:=@List.Sublist.refl
theorem Fl:∀ {c:Type _} {l:List c} {i b:Nat},i ≠ b->∀ {a:c},(l.set i a)[b]?=l[b]?:=@List.getElem?_set_ne
theorem Fo:∀ (a:Nat),a=0∨a > 0:=@Nat.eq_zero_or_pos
theorem Fq:∀ {a b:Prop},a->a∨b:=@Or.inl
theorem Fs:∀ (a:Nat),¬a<a:=@Nat.lt_irrefl
theorem Ft:∀ {c:Type _} {a b:c},(some a).getD b=a:=@Option.getD_some
theorem Fu:∀ (a:Nat),a+0=a:=@Nat.add_zero
theorem Fv:∀ (a:Nat),a * 1=a:=@Nat.mul_one
theorem Fx:∀ (a b c:Nat),a+b+c=a+(b+c):=@Nat.add_assoc
theorem Fy:∀ {b:Type _} {a:b},¬a∈[]:=@List.not_mem_nil
end Go.Proofs.YtggmghkcdfjdoaaGreat
