import Derived.Test.YtbgbokgomheodaaGreatGAA
import Derived.Test.YtbgbokgomheodaaGreatGAO
import Derived.Test.YtbgbokgomheodaaGreatGAG
import Derived.Test.YtbgbokgomheodaaGreatGAS
import Derived.WalkSpells
import Derived.WalkLawsBesides
import Derived.Laws.IdiomStrings
import Derived.Deep.RegionWith
import Derived.Deep.DeepCutAuto
import Derived.Deep.QuietTactic
import Derived.BigQuiet
namespace Go.Proofs.YtbgbokgomheodaaGreat
open Go.RowKit
set_option linter.unusedVariables false
set_option linter.unusedSimpArgs false
set_option maxRecDepth 100000
def slotV : Option (ByteArray × ByteArray × Int) → Value
 | some s => .agg #[.string s.1, .string s.2.1, .int .i64 s.2.2]
 | none => .agg #[.string ByteArray.empty, .string ByteArray.empty, .int .i64 0]
def FindAns (s : Option (ByteArray × ByteArray × Int)) (w : World) (e : Ending) (w' : World) : Prop := e = .returned (.tuple #[slotV s, .bool s.isSome]) ∧ Below w.heap.size w w'
def put3G (w : World) (N : Nat) (u0 u1 u2 : Value) : World := ((w.setCell ⟨N, 0, none⟩ u0).setCell ⟨N, 1, none⟩ u1).setCell ⟨N, 2, none⟩ u2
theorem leafSearch_any {w : World} {P : Nat → Prop} {t : T} {L : Nat} {a : Option Addr} {n c : Nat} (h : GLeaf w P t L a n c) (hs : SortT (t.keys.zip (t.vals.zip t.over))) (hn : n ≤ 1000) (key : ByteArray) : Calls Tryz.prog 125 #[.pointer (some ⟨L, 0, none⟩), .string key] w fun e w' => SearchAns (t.keys.zip (t.vals.zip t.over)) key w e w' := by
 obtain ⟨c0, c1⟩ := box_twoG h.box
 have hlt : L < w.heap.size := (Array.getElem?_eq_some_iff.1 h.box).1
 have hc := binSearch_any _ (asc_of_sort hs) key P a n c w h.row hn
 clear h hs
 generalize t.keys.zip (t.vals.zip t.over) = zs at *
 go_enter Tryz.func125, Tryz.ntmps125
 go_wp2_with fail
 refine hc.mono ?_
 rintro e w1 ⟨i, b, rfl, h1, h2, h3, hb⟩
 have H3 : Hid _ := h3
 have H1 : Hid _ := h1
 have H2 : Hid _ := h2
 clear hc h1 h2 h3
 go_wp2_with fail
 refine bodyPost_ret (v := .tuple #[.int .i64 i, .bool b]) (by simp [results, Tryz.results125, go_sem]) rfl ?_
 exact ⟨i, b, rfl, H1.out, H2.out, H3.out, hb⟩
set_option maxHeartbeats 1000000 in
theorem toward_any {w : World} {P : Nat → Prop} {t : T} {L : Nat} {a : Option Addr} {n c : Nat} {us : Nat → Value} (h : GInner w P t L a n c us) (hn : 0 < n) (hn4 : n ≤ 1000) (hk : ∀ i k, t.kids[i]? = some k → ∃ ty v, us i = .iface ty v ∧ Obs w ty v "loop.example/s02098/impl.least" (.string k.low)) (key : ByteArray) :
  Calls Tryz.prog 106 #[.pointer (some ⟨L, 0, none⟩), .string key] w fun e w' => ∃ m : Nat, e = .returned (.int .i64 m) ∧ TowardIs t key m ∧ w' = w := by
 obtain ⟨c0, c1⟩ := box_twoG h.box
 have hlt : L < w.heap.size := (Array.getElem?_eq_some_iff.1 h.box).1
 have HN : Hid (n = t.kids.length) := h.len.1
 obtain ⟨b, rfl, hpb, hcc⟩ := h.row hn
 have HC : Hid (∀ i, i < n → w.cell? ⟨b, i, none⟩ = some (us i)) := hcc
 have hbl := lt_of_cellG (hcc 0 hn)
 have HK : Hid (∀ i k, t.kids[i]? = some k → ∃ ty v, us i = .iface ty v ∧ Obs w ty v "loop.example/s02098/impl.least" (.string k.low)) := hk
 clear h hcc hk
 generalize t.page = pg at *
 go_enter Tryz.func106, Tryz.ntmps106
 go_wp2_with fail
 clear c0 c1
 go_loopw [5, 13] (fun mv iv wr => ∃ (j m : Nat), j ≤ n ∧ iv = .int .i64 j ∧ mv = .int .i64 m ∧ m ≤ j ∧ Hid ((m = 0 ∨ (m < j ∧ ∃ k, t.kids[m]? = some k ∧ leB k.low key = true)) ∧ ∀ i k, m < i → i < j → t.kids[i]? = some k → ¬ leB k.low key = true) ∧ wr = w) (fun _ iv _ => n - (intOf iv).toNat)
 case atStart => exact ⟨0, 0, Nat.zero_le _, rfl, rfl, Nat.le_refl _, ⟨.inl rfl, fun i k h1 h2 => by omega⟩, rfl⟩
 case round =>
  obtain ⟨j, m, hj, rfl, rfl, hmj, HI, rfl⟩ := hrel
  by_cases hlt2 : j < n
  ·obtain ⟨k, hki⟩ : ∃ k, t.kids[j]? = some k := ⟨_, List.getElem?_eq_getElem (by have := HN.out; omega)⟩
   obtain ⟨ty, v, hu, ha, f, r, hme, hcf, hcall⟩ := HK.out j k hki
   have d0 := HC.out j hlt2
   rw [hu] at d0
   have HKI : Hid (t.kids[j]? = some k) := hki
   obtain ⟨lw, hlw⟩ : ∃ lw, k.low = lw := ⟨_, rfl⟩
   have HLW : Hid (k.low = lw) := hlw
   rw [hlw] at hcall
   clear hu hki hlw
   obtain ⟨lb, hlb⟩ : ∃ lb, leB lw key = lb := ⟨_, rfl⟩
   have HLB : Hid (leB lw key = lb) := hlb
   unfold leB at hlb
   go_wp2_with fail
   refine hcall.mono ?_
   rintro e w' ⟨rfl, rfl⟩
   cases lb
   ·have HI2 : Hid ((m = 0 ∨ (m < j + 1 ∧ ∃ k, t.kids[m]? = some k ∧ leB k.low key = true)) ∧ ∀ i k, m < i → i < j + 1 → t.kids[i]? = some k → ¬ leB k.low key = true) := by
     refine ⟨HI.out.1.imp id (fun h => ⟨by omega, h.2⟩), fun i k2 h1 h2 h3 => ?_⟩
     by_cases hij : i = j
     ·subst hij
      rw [HKI.out] at h3
      cases h3
      rw [HLW.out, HLB.out]
      simp
     ·exact HI.out.2 i k2 h1 (by omega) h3
    clear HI hcall
    go_wp2_with fail
    go_roundw
    case rel => exact ⟨j + 1, m, by omega, by go_num, rfl, by omega, HI2, trivial⟩
    case measure => simp [intOf]; omega
   ·have HI2 : Hid ((j = 0 ∨ (j < j + 1 ∧ ∃ k, t.kids[j]? = some k ∧ leB k.low key = true)) ∧ ∀ i k, j < i → i < j + 1 → t.kids[i]? = some k → ¬ leB k.low key = true) :=
     ⟨.inr ⟨by omega, k, HKI.out, by rw [HLW.out, HLB.out]⟩, fun i k2 h1 h2 h3 => by omega⟩
    clear HI hcall
    go_wp2_with fail
    go_roundw
    case rel => exact ⟨j + 1, j, by omega, by go_num, rfl, by omega, HI2, trivial⟩
    case measure => simp [intOf]; omega
  ·have HF : Hid (TowardIs t key m) := by
    have hl := HN.out
    refine ⟨by rcases HI.out.1 with h | h <;> omega, HI.out.1.imp id (fun h => h.2), fun i k h1 h3 => ?_⟩
    have hi := (List.getElem?_eq_some_iff.1 h3).1
    exact HI.out.2 i k h1 (by omega) h3
   clear HI
   go_wp2_with fail
   go_ret
   exact ⟨m, rfl, HF.out, rfl⟩
def FObs (base : Nat) (w : World) (key : ByteArray) (s : Option (ByteArray × ByteArray × Int)) (ty : TypeId) (v : Value) : Prop :=
 (∀ w, (nilAhead 273 ty v "loop.example/s02098/impl.find").run Tryz.prog w = .ok (some false) w) ∧ ∃ f r, (∀ w, (method 273 ty v "loop.example/s02098/impl.find").run Tryz.prog w = .ok (f, r) w) ∧ (∀ w, (callFunc f #[r, .string key]).run Tryz.prog w = .ok (.enter f #[r, .string key]) w) ∧ ∀ w', Below base w w' → base ≤ w'.heap.size → Calls Tryz.prog f #[r, .string key] w' fun e w2 => FindAns s w' e w2
def PutAns (w : World) (P : Nat → Prop) (t : T) (u : Value) (e : Ending) (w' : World) : Prop := e = .returned (.tuple #[]) ∧ (∃ P' : Nat → Prop, GM w' P' t u ∧ ∀ b, P' b → (P b ∨ w.heap.size ≤ b) ∧ b < w'.heap.size) ∧ Fr P w w'
theorem fr_tight {P : Nat → Prop} {w w' : World} (h : Fr (fun b => P b ∨ w.heap.size ≤ b) w w') : Fr P w w' := ⟨h.os, h.tape, h.output, h.size, fun k hk hn => h.block k hk (fun e => by rcases e with e | e; exact hn e; omega)⟩
theorem soil_any {w : World} {L : Nat} {p : Int} {s : Value} {ty : TypeId} (h : w.heap[L]? = some (.cells #[.int .i64 p, s] ty)) : Calls Tryz.prog 103 #[.pointer (some ⟨L, 0, none⟩)] w fun e w' => e = .returned (.tuple #[]) ∧ w' = w.setCell ⟨L, 0, none⟩ (.int .i64 0) := by
 obtain ⟨c0, c1⟩ := box_twoG h
 have hlt : L < w.heap.size := (Array.getElem?_eq_some_iff.1 h).1
 have ff := thawT h
 clear h
 go_enter Tryz.func103, Tryz.ntmps103
 go_wp2
 go_end0
 exact ⟨rfl, rfl⟩
theorem leafPut_fin {w w5 : World} {P : Nat → Prop} {L c : Nat} {a : Option Addr} {zs : List (ByteArray × ByteArray × Int)} (hF : Fr (fun b => P b ∨ w.heap.size ≤ b) w w5) (hbox : w5.heap[L]? = some (.cells #[.int .i64 0, .slice a zs.length c] 111)) (hrow : w5.ownsRow 0 61 3 (.slice a zs.length c) zs.length (rowsOf slCells zs)) (hPL : P L) (hblk : ∀ g, (Value.slice a zs.length c).ownBlock = some g → (P g ∨ w.heap.size ≤ g) ∧ g ≠ L) :
  PutAns w P (leafZ zs) (.iface 109 (.pointer (some ⟨L, 0, none⟩))) (.returned (.tuple #[])) w5 := by
 have hlt : L < w5.heap.size := (Array.getElem?_eq_some_iff.1 hbox).1
 refine ⟨rfl, ⟨fun b => (P b ∨ w.heap.size ≤ b) ∧ b < w5.heap.size, ?_, fun b hb => hb⟩, fr_tight hF⟩
 refine GML.is (a := a) (n := zs.length) (c := c) ⟨⟨.inl hPL, hlt⟩, hbox, ?_, fun g hg => ⟨⟨(hblk g hg).1, (hrow.lt g hg).2⟩, (hblk g hg).2⟩, by simp [leafZ]⟩ rfl
 rw [leafZ_zip]
 exact hrow
theorem rowsOf_takeG {α : Type} {m : Nat} {cs : α → List Value} (hm : ∀ x, (cs x).length = m) : ∀ (xs : List α) (i : Nat), rowsOf cs (xs.take i) = (rowsOf cs xs).take (i * m)
 | [], i => by simp [rowsOf]
 | x :: r, 0 => by simp [rowsOf]
 | x :: r, i + 1 => by
  have ih := rowsOf_takeG hm r i
  have e : rowsOf cs (x :: r) = cs x ++ rowsOf cs r := rfl
  have e2 : rowsOf cs ((x :: r).take (i + 1)) = cs x ++ rowsOf cs (r.take i) := rfl
  have h1 : (cs x).take ((i + 1) * m) = cs x := List.take_of_length_le (by rw [hm]; exact Nat.le_mul_of_pos_left m (Nat.succ_pos i))
  rw [e, e2, ih, List.take_append, h1, hm, Nat.succ_mul, Nat.add_sub_cancel]
theorem rowsOf_dropG {α : Type} {m : Nat} {cs : α → List Value} (hm : ∀ x, (cs x).length = m) : ∀ (xs : List α) (i : Nat), rowsOf cs (xs.drop i) = (rowsOf cs xs).drop (i * m)
 | [], i => by simp [rowsOf]
 | x :: r, 0 => by simp
 | x :: r, i + 1 => by
  have ih := rowsOf_dropG hm r i
  have e : rowsOf cs (x :: r) = cs x ++ rowsOf cs r := rfl
  have e2 : rowsOf cs ((x :: r).drop (i + 1)) = rowsOf cs (r.drop i) := rfl
  have h1 : (cs x).drop ((i + 1) * m) = [] := List.drop_of_length_le (by rw [hm]; exact Nat.le_mul_of_pos_left m (Nat.succ_pos i))
  rw [e, e2, ih, List.drop_append, h1, hm, Nat.succ_mul, Nat.add_sub_cancel, List.nil_append]
theorem slots_one (zs : List (ByteArray × ByteArray × Int)) : ∀ u ∈ rowsOf slCells zs, u.oneCell' = true := by
 intro u hu
 unfold rowsOf at hu
 obtain ⟨s, _, hu⟩ := List.mem_flatMap.1 hu
 simp [slCells] at hu
 rcases hu with rfl | rfl | rfl <;> rfl
def put3at (w : World) (b o : Nat) (u0 u1 u2 : Value) : World := ((w.setCell ⟨b, o, none⟩ u0).setCell ⟨b, o + 1, none⟩ u1).setCell ⟨b, o + 2, none⟩ u2
theorem put3at_fr (w : World) (b o : Nat) (u0 u1 u2 : Value) : Fr (fun x => x = b) w (put3at w b o u0 u1 u2) := ((fr_setT w b o u0).trans (fr_setT _ b (o + 1) u1)).trans (fr_setT _ b (o + 2) u2)
theorem set3_take {α : Type} (l : List α) (o n : Nat) (u0 u1 u2 : α) (h : o + 3 ≤ n) (hn : n ≤ l.length) : (((l.set o u0).set (o + 1) u1).set (o + 2) u2).take n = (l.take n).take o ++ [u0, u1, u2] ++ (l.take n).drop (o + 3) := by
 apply List.ext_getElem?
 intro i
 simp only [List.getElem?_take, List.getElem?_set, List.length_set, List.getElem?_append, List.length_append, List.length_take, List.length_cons, List.length_nil, List.getElem?_drop]
 by_cases h1 : i < o
 ·simp [show i < n by omega, show ¬ (o + 2 = i) by omega, show ¬ (o + 1 = i) by omega, show ¬ (o = i) by omega, show i < min o (min n l.length) by omega, show i < min o (min n l.length) + 3 by omega, h1]
 ·by_cases h2 : i = o
  ·subst h2
   simp [show i < n by omega, show ¬ (i < min i (min n l.length)) by omega, show i < min i (min n l.length) + 3 by omega, show min i (min n l.length) = i by omega, show i < l.length by omega]
  ·by_cases h3 : i = o + 1
   ·subst h3
    simp [show ¬ (o + 1 < o) by omega, show o + 1 < n by omega, show min o (min n l.length) = o by omega, show o + 1 < l.length by omega]
   ·by_cases h4 : i = o + 2
    ·subst h4
     simp [show ¬ (o + 2 < o) by omega, show o + 2 < n by omega, show min o (min n l.length) = o by omega, show o + 2 < l.length by omega]
    ·have e : o + 3 + (i - (o + 3)) = i := by omega
     simp [show ¬ (o + 2 = i) by omega, show ¬ (o + 1 = i) by omega, show ¬ (o = i) by omega, show min o (min n l.length) = o by omega, show ¬ (i < o + 3) by omega, e]
theorem put3at_row {w : World} {b n c o : Nat} {xs : List Value} {u0 u1 u2 : Value} (h : w.ownsRow 0 61 3 (.slice (some ⟨b, 0, none⟩) n c) n xs) (ho : o + 3 ≤ n * 3) : (put3at w b o u0 u1 u2).ownsRow 0 61 3 (.slice (some ⟨b, 0, none⟩) n c) n (xs.take o ++ [u0, u1, u2] ++ xs.drop (o + 3)) := by
 have hxl := h.1
 rcases h.2 with ⟨e, _⟩ | ⟨g, cap, cur, e, _, hg, hnc, hcm, hcs, htk⟩
 ·cases e
 ·simp only [Value.slice.injEq, Option.some.injEq, Addr.mk.injEq] at e
  obtain ⟨⟨rfl, _⟩, _, rfl⟩ := e
  have e0 := heap_setT hg o u0
  have e1 := heap_setT e0 (o + 1) u1
  have e2 := heap_setT e1 (o + 2) u2
  refine ⟨by simp [hxl]; omega, .inr ⟨b, c, _, rfl, Nat.zero_le _, e2, hnc, hcm, by simpa using hcs, ?_⟩⟩
  simp only [Array.toList_setIfInBounds]
  rw [set3_take cur.toList o (n * 3) u0 u1 u2 ho (by simp [hcs]; omega), htk]
set_option maxHeartbeats 2000000 in
theorem leafPut_any {w : World} {P : Nat → Prop} {t : T} {L : Nat} {a : Option Addr} {n c : Nat} (h : GML w P t L a n c) (hs : SortT (t.keys.zip (t.vals.zip t.over))) (hn : n ≤ 4) (hP : ∀ b, P b → b < w.heap.size) (key val : ByteArray) :
  Calls Tryz.prog 121 #[.pointer (some ⟨L, 0, none⟩), .agg #[.string key, .string val, .int .i64 0]] w fun e w' => PutAns w P (leafZ (putZ key val (t.keys.zip (t.vals.zip t.over)))) (.iface 109 (.pointer (some ⟨L, 0, none⟩))) e w' := by
 obtain ⟨N, hN⟩ : ∃ N, w.heap.size = N := ⟨_, rfl⟩
 obtain ⟨zs, hzs⟩ : ∃ zs, t.keys.zip (t.vals.zip t.over) = zs := ⟨_, rfl⟩
 have hrow0 := h.row
 rw [hzs] at hrow0 hs ⊢
 have hzl : zs.length = n := by have := hrow0.1; rw [rowsOf_length sl3] at this; omega
 have hLN : L < N := by have := hP L h.at'; omega
 have hblk0 : ∀ g, (Value.slice a n c).ownBlock = some g → P g ∧ g ≠ L ∧ g < N := fun g hg => ⟨(h.blk g hg).1, (h.blk g hg).2, by have := hP g (h.blk g hg).1; omega⟩
 have ab := (Below.refl w.heap.size w).alloc (Nat.le_refl _) (.cells #[.string key, .string val, .int .i64 0] 61)
 have kb := heap_alloc_new w (.cells #[.string key, .string val, .int .i64 0] 61)
 have z0 : (w.alloc (.cells #[.string key, .string val, .int .i64 0] 61)).heap.size = N + 1 := by simp [hN]
 rw [hN] at kb
 have hbox0 := (ab.block L (by omega)).trans h.box
 have hrow1 := owns_below hrow0 ab
 have hPL := h.at'
 have hpg : ∃ pg, t.page = pg := ⟨_, rfl⟩
 obtain ⟨pg, hpg⟩ := hpg
 rw [hpg] at hbox0
 have HLEN : Hid (n = t.keys.length ∧ t.keys.zip (t.vals.zip t.over) = zs) := ⟨h.len, hzs⟩
 have hsoil := soil_any hbox0
 go_enter Tryz.func121, Tryz.ntmps121
 go_upto_region 1 with fail
 generalize w.alloc (.cells #[.string key, .string val, .int .i64 0] 61) = W0 at *
 clear hrow0 hzs h
 go_wp2_with fail
 refine hsoil.mono ?_
 rintro e W1 ⟨rfl, hW1⟩
 have f1 := fr_setT W0 L 0 (.int .i64 0)
 rw [← hW1] at f1
 have hbox1 : W1.heap[L]? = some (.cells #[.int .i64 0, .slice a n c] 111) := by rw [hW1]; simpa using heap_setT hbox0 0 (.int .i64 0)
 have kb1 := (f1.block N (by omega) (by omega)).trans kb
 have hrow2 := owns_fr hrow1 f1 (fun g hg e => (hblk0 g hg).2.1 e)
 have s1 := f1.size
 have F1 : Fr (fun b => P b ∨ N ≤ b) w W1 := (Fr.of_below ab).trans (f1.weak (fun g e => .inl (by rw [e]; exact hPL)))
 clear hW1 f1 hbox0 kb hrow1 hsoil ab
 have hsee : GLeaf W1 P { t with page := 0 } L a n c := by
  refine GML.see ⟨hPL, hbox1, by show W1.ownsRow 0 _ 3 _ n (rowsOf slCells (t.keys.zip (t.vals.zip t.over))); rw [HLEN.out.2]; exact hrow2, fun g hg => ⟨(hblk0 g hg).1, (hblk0 g hg).2.1⟩, HLEN.out.1⟩
 have hc := leafSearch_any hsee (by show SortT (t.keys.zip (t.vals.zip t.over)); rw [HLEN.out.2]; exact hs) (by omega) key
 have hc2 : Calls Tryz.prog 125 #[.pointer (some ⟨L, 0, none⟩), .string key] W1 fun e w' => SearchAns zs key W1 e w' := by
  have := hc
  simp only [HLEN.out.2] at this
  exact this
 obtain ⟨q0, q1, q2⟩ := box3w' kb1
 have lN1 : N < W1.heap.size := by omega
 clear hc hsee hs
 go_wp2_with fail
 refine hc2.mono ?_
 rintro e V ⟨i, bb, rfl, h1, h2, h3, hb⟩
 have hpos := pos_is key zs i h3
 have kbV := (hb.block N lN1).trans kb1
 have boxV := (hb.block L (by omega)).trans hbox1
 have rowV := owns_below hrow2 hb
 have sV := hb.size
 have FV : Fr (fun b => P b ∨ N ≤ b) w V := F1.trans (Fr.of_below hb)
 have hil := h3.1
 clear hc2 q0 q1 q2 kb1 hbox1 hrow2 F1 hb h3
 cases bb
 ·have HTH : Hid (putZ key val zs = zs.take i ++ (key, val, 0) :: zs.drop i) := by
   show _ = _
   have hno : thereT key zs = false := by
    unfold thereT
    rw [← hpos]
    simp only [decide_eq_false_iff_not, not_and]
    exact fun hi => h2 rfl i hi
   unfold putZ
   rw [hno, ← hpos]
   rfl
  clear h1 h2 hpos
  go_upto_region 5 with fail
  have hal : Below V.heap.size V (V.alloc (.cells #[.string key, .string val, .int .i64 0] 61)) := (Below.refl _ _).alloc (Nat.le_refl _) _
  have kA : (V.alloc (.cells #[.string key, .string val, .int .i64 0] 61)).drew.heap[V.heap.size]? = some (.cells #[.string key, .string val, .int .i64 0] 61) := heap_alloc_new V _
  have rowA : (V.alloc (.cells #[.string key, .string val, .int .i64 0] 61)).drew.ownsRow 0 61 3 (.slice a n c) n (rowsOf slCells zs) := owns_below rowV hal.drew
  have hins := insertSlot_any i n c V.heap.size a (rowsOf slCells zs) [.string key, .string val, .int .i64 0] _ rowA (by omega) (by omega) rfl kA (fun e => by have := (hblk0 _ e).2.2; omega) (by simp [Value.oneCell']) (slots_one zs)
  have hsA : (V.alloc (.cells #[.string key, .string val, .int .i64 0] 61)).drew.heap.size = V.heap.size + 1 := by show (V.alloc _).heap.size = _; simp
  have SBA : (V.alloc (.cells #[.string key, .string val, .int .i64 0] 61)).heap[N]? = some (.cells #[.string key, .string val, .int .i64 0] 61) := (hal.block N (by omega)).trans kbV
  have boxA : (V.alloc (.cells #[.string key, .string val, .int .i64 0] 61)).drew.heap[L]? = some (.cells #[.int .i64 0, .slice a n c] 111) := (hal.block L (by omega)).trans boxV
  have HFIN : Hid (∀ w4 a' c', w4.ownsRow 0 61 3 (.slice a' (n + 1) c') (n + 1) ((rowsOf slCells zs).take (i * 3) ++ [.string key, .string val, .int .i64 0] ++ (rowsOf slCells zs).drop (i * 3)) → (V.alloc (.cells #[.string key, .string val, .int .i64 0] 61)).drew.grownBy w4 (Value.slice a n c).ownBlock → ((Value.slice a' (n + 1) c').ownBlock = (Value.slice a n c).ownBlock ∨ ∀ g, (Value.slice a' (n + 1) c').ownBlock = some g → (V.alloc (.cells #[.string key, .string val, .int .i64 0] 61)).drew.heap.size ≤ g) → w4.heap[L]? = some (.cells #[.int .i64 0, .slice a n c] 111) ∧ w4.heap[N]? = some (.cells #[.string key, .string val, .int .i64 0] 61) ∧ PutAns w P (leafZ (putZ key val zs)) (.iface 109 (.pointer (some ⟨L, 0, none⟩))) (.returned (.tuple #[])) (w4.setCell ⟨L, 1, none⟩ (.slice a' (n + 1) c'))) := by
   intro w4 a' c' g1 g2 g3
   have b4 : w4.heap[L]? = some (.cells #[.int .i64 0, .slice a n c] 111) := (g2.block L (by omega) (fun e => (hblk0 L e.symm).2.1 rfl)).trans boxA
   have n4 : w4.heap[N]? = some (.cells #[.string key, .string val, .int .i64 0] 61) := (g2.block N (by omega) (fun e => by have := (hblk0 N e.symm).2.2; omega)).trans SBA
   refine ⟨b4, n4, ?_⟩
   have hlen : (putZ key val zs).length = n + 1 := by rw [HTH.out]; simp; omega
   have hst := fr_setT w4 L 1 (.slice a' (n + 1) c')
   have hg4 := g2.size
   have hnew : ∀ g, (Value.slice a' (n + 1) c').ownBlock = some g → (P g ∨ w.heap.size ≤ g) ∧ g ≠ L := fun g hg => by
    rcases g3 with e | e
    ·rw [e] at hg; exact ⟨.inl (hblk0 g hg).1, (hblk0 g hg).2.1⟩
    ·have := e g hg; exact ⟨.inr (by omega), by omega⟩
   refine leafPut_fin (a := a') (c := c') ?_ ?_ ?_ hPL ?_
   ·rw [hN]
    refine (FV.trans ((Fr.of_below hal.drew).trans (Fr.of_grown g2 (fun g hg => .inl (hblk0 g hg).1)))).trans (hst.weak (fun g e => .inl (by rw [e]; exact hPL)))
   ·rw [hlen]; simpa using heap_setT b4 1 (.slice a' (n + 1) c')
   ·rw [hlen]
    have hr : rowsOf slCells (putZ key val zs) = (rowsOf slCells zs).take (i * 3) ++ [.string key, .string val, .int .i64 0] ++ (rowsOf slCells zs).drop (i * 3) := by
     rw [HTH.out, rowsOf_append, rowsOf_takeG sl3, ← rowsOf_dropG sl3, List.append_assoc]
     rfl
    rw [hr]
    exact owns_fr g1 hst (fun g hg e => (hnew g hg).2 e)
   ·rw [hlen]; exact hnew
  have hSBl : N < V.heap.size := by omega
  have hLl : L < V.heap.size := by omega
  clear hblk0 rowA SBA rowV kA FV
  refine wp_region_noPanic ?_
  refine wp_region_held_drew (S := (fun w' : World => w'.heap[N]? = some (.cells #[.string key, .string val, .int .i64 0] 61))) (by kernel_rfl) (kbV) (fun hHeld => ?_)
  refine tkB (i := 0) (v := .pointer (some ⟨L, 0, none⟩)) .z (by kernel_rfl) (fun _ _ _ h => h) (Or.inl ⟨by rfl, ?_⟩) (by assumption) ?_
  ·intro wq hSw; (try dsimp only at hSw); go_simp
  try simp only [Act.put, q1, q2, q3]
  refine tkB (i := 1) (v := .pointer (some ⟨L, 0, none⟩)) (.s .z) (by kernel_rfl) (fun _ _ _ h => h) (Or.inl ⟨by rfl, ?_⟩) (by assumption) ?_
  ·intro wq hSw; (try dsimp only at hSw); go_simp
  try simp only [Act.put, q1, q2, q3]
  refine tkB (i := 2) (v := .pointer (some ⟨L, 0, none⟩)) (.s (.s .z)) (by kernel_rfl) (fun _ _ _ h => h) (Or.inl ⟨by rfl, ?_⟩) (by assumption) ?_
  ·intro wq hSw; (try dsimp only at hSw); go_simp
  try simp only [Act.put, q1, q2, q3]
  refine tkB (i := 3) (v := .pointer (some ⟨L, 1, none⟩)) (.s (.s (.s .z))) (by kernel_rfl) (fun _ _ _ h => h) (Or.inl ⟨by rfl, ?_⟩) (by assumption) ?_
  ·intro wq hSw; (try dsimp only at hSw); go_simp
  try simp only [Act.put, q1, q2, q3]
  refine tkB (i := 5) (v := .int .i64 (i : Int)) (.f .z) (by kernel_rfl) (fun _ _ _ h => h) (Or.inl ⟨by rfl, ?_⟩) (by assumption) ?_
  ·intro wq hSw; (try dsimp only at hSw); go_simp
  try simp only [Act.put, q1, q2, q3]
  refine tkB (i := 6) (v := .agg #[.string key, .string val, .int .i64 0]) (.f (.s .z)) (by kernel_rfl) (fun _ _ _ h => h) (Or.inl ⟨by rfl, ?_⟩) (by assumption) ?_
  ·intro wq hSw; (try dsimp only at hSw); obtain ⟨q0, q1, q2⟩ := box3w' hSw; go_simp
  try simp only [Act.put, q1, q2, q3]
  refine wpAnyH_ready (rs := [4, 7]) (by kernel_rfl) (by simp) ?_
  refine rdA (.s (.s (.s (.s .z)))) (fun K hK => ?_) ?_
  rotate_left 1
  refine rdA (.f (.s (.s .z))) (fun K hK => ?_) ?_
  rotate_left 1
  exact AllReadyH.nil
  ·obtain ⟨y0, y1⟩ := box_twoG boxV
   go_simp
   clear y0 y1
   refine hK.out _ _ (kbV) (fun hHeld => ?_)
   clear hK K
   try simp only [Act.put, q1, q2, q3]
   refine wpAnyH_ready (rs := [7]) (by kernel_rfl) (by simp) ?_
   refine rdA (.f (.s (.s .z))) (fun K hK => ?_) AllReadyH.nil
   go_simp
   refine hK.out _ _ ((hal.block N hSBl).trans kbV) (fun hHeld => ?_)
   clear hK K
   try simp only [Act.put, q1, q2, q3]
   refine wpAnyH_ready (rs := [8]) (by kernel_rfl) (by simp) ?_
   refine rdA (.f (.s (.s (.s .z)))) (fun K hK => ?_) AllReadyH.nil
   go_simp
   refine hins.mono ?_
   rintro e w4 ⟨a', c', rfl, g1, g2, g3⟩
   obtain ⟨b4, n4, hfin⟩ := HFIN.out w4 a' c' g1 g2 g3
   have HF2 : Hid _ := hfin
   clear g1 g2 g3 hfin HFIN hins
   go_wp2_with fail
   refine hK.out _ _ (n4) (fun hHeld => ?_)
   clear hK K
   try simp only [Act.put, q1, q2, q3]
   refine tkB (i := 9) (v := .pointer (some ⟨L, 0, none⟩)) (.f (.s (.s (.s (.s .z))))) (by kernel_rfl) (fun _ _ _ h => h) (Or.inl ⟨by rfl, ?_⟩) (by assumption) ?_
   ·intro wq hSw; (try dsimp only at hSw); go_simp
   try simp only [Act.put, q1, q2, q3]
   refine tkB (i := 10) (v := .pointer (some ⟨L, 1, none⟩)) (.t .z) (by kernel_rfl) (fun _ _ _ h => h) (Or.inl ⟨by rfl, ?_⟩) (by assumption) ?_
   ·intro wq hSw; (try dsimp only at hSw); go_simp
   try simp only [Act.put, q1, q2, q3]
   refine wpAnyH_ready (rs := [11]) (by kernel_rfl) (by simp) ?_
   refine rdA (.t (.s .z)) (fun K hK => ?_) AllReadyH.nil
   obtain ⟨y0, y1⟩ := box_twoG b4
   have ff := thawT b4
   have hl4 := (Array.getElem?_eq_some_iff.1 b4).1
   have SB5 := ((fr_setT w4 L 1 (.slice a' (n + 1) c')).block N (Array.getElem?_eq_some_iff.1 n4).1 (by omega)).trans n4
   go_simp
   clear y0 y1 ff
   refine hK.out _ _ (SB5) (fun hHeld => ?_)
   clear hK K
   try simp only [Act.put, q1, q2, q3]
   refine wpAnyH_done (by kernel_rfl) ?_ _
   refine NoPanic.normal ?_
   clear hHeld SB5 b4 n4
   go_wp2_with fail
   go_end0
   exact ⟨rfl, HF2.out.2⟩
  ·go_simp
   refine hK.out _ _ ((hal.block N hSBl).trans kbV) (fun hHeld => ?_)
   clear hK K
   try simp only [Act.put, q1, q2, q3]
   refine wpAnyH_ready (rs := [4]) (by kernel_rfl) (by simp) ?_
   refine rdA (.s (.s (.s (.s .z)))) (fun K hK => ?_) AllReadyH.nil
   obtain ⟨y0, y1⟩ := box_twoG boxA
   have hlA : L < V.heap.size + 1 := by omega
   go_simp
   clear y0 y1
   refine hK.out _ _ ((hal.block N hSBl).trans kbV) (fun hHeld => ?_)
   clear hK K
   try simp only [Act.put, q1, q2, q3]
   refine wpAnyH_ready (rs := [8]) (by kernel_rfl) (by simp) ?_
   refine rdA (.f (.s (.s (.s .z)))) (fun K hK => ?_) AllReadyH.nil
   go_simp
   refine hins.mono ?_
   rintro e w4 ⟨a', c', rfl, g1, g2, g3⟩
   obtain ⟨b4, n4, hfin⟩ := HFIN.out w4 a' c' g1 g2 g3
   have HF2 : Hid _ := hfin
   clear g1 g2 g3 hfin HFIN hins
   go_wp2_with fail
   refine hK.out _ _ (n4) (fun hHeld => ?_)
   clear hK K
   try simp only [Act.put, q1, q2, q3]
   refine tkB (i := 9) (v := .pointer (some ⟨L, 0, none⟩)) (.f (.s (.s (.s (.s .z))))) (by kernel_rfl) (fun _ _ _ h => h) (Or.inl ⟨by rfl, ?_⟩) (by assumption) ?_
   ·intro wq hSw; (try dsimp only at hSw); go_simp
   try simp only [Act.put, q1, q2, q3]
   refine tkB (i := 10) (v := .pointer (some ⟨L, 1, none⟩)) (.t .z) (by kernel_rfl) (fun _ _ _ h => h) (Or.inl ⟨by rfl, ?_⟩) (by assumption) ?_
   ·intro wq hSw; (try dsimp only at hSw); go_simp
   try simp only [Act.put, q1, q2, q3]
   refine wpAnyH_ready (rs := [11]) (by kernel_rfl) (by simp) ?_
   refine rdA (.t (.s .z)) (fun K hK => ?_) AllReadyH.nil
   obtain ⟨y0, y1⟩ := box_twoG b4
   have ff := thawT b4
   have hl4 := (Array.getElem?_eq_some_iff.1 b4).1
   have SB5 := ((fr_setT w4 L 1 (.slice a' (n + 1) c')).block N (Array.getElem?_eq_some_iff.1 n4).1 (by omega)).trans n4
   go_simp
   clear y0 y1 ff
   refine hK.out _ _ (SB5) (fun hHeld => ?_)
   clear hK K
   try simp only [Act.put, q1, q2, q3]
   refine wpAnyH_done (by kernel_rfl) ?_ _
   refine NoPanic.normal ?_
   clear hHeld SB5 b4 n4
   go_wp2_with fail
   go_end0
   exact ⟨rfl, HF2.out.2⟩
 ·have hi := (h1 rfl).1
  have HTH : Hid (putZ key val zs = zs.take i ++ (key, val, 0) :: zs.drop (i + 1)) := by
   show _ = _
   have hyes : thereT key zs = true := by
    unfold thereT
    rw [← hpos]
    simpa using h1 rfl
   unfold putZ
   rw [hyes, ← hpos]
   rfl
  rcases rowV.2 with ⟨_, e⟩ | ⟨b, cap, cur, e, _, hg, hnc, hcm, hcs, htk⟩
  ·omega
  simp only [Value.slice.injEq] at e
  obtain ⟨rfl, _, rfl⟩ := e
  have hbb := hblk0 b rfl
  have hin : i < n := by omega
  have hsome : ∀ r, r < 3 → ∃ u, V.cell? ⟨b, i * 3 + r, none⟩ = some u := fun r hr => ⟨_, by
   simp only [World.cell?, hg]
   exact Array.getElem?_eq_getElem (by rw [hcs]; omega)⟩
  obtain ⟨v0, d0⟩ := hsome 0 (by omega)
  rw [Nat.add_zero] at d0
  obtain ⟨v1, d1⟩ := hsome 1 (by omega)
  obtain ⟨v2, d2⟩ := hsome 2 (by omega)
  have ffb := thawT hg
  have HFIN : Hid (PutAns w P (leafZ (putZ key val zs)) (.iface 109 (.pointer (some ⟨L, 0, none⟩))) (.returned (.tuple #[])) (put3at V.drew b (i * 3) (.string key) (.string val) (.int .i64 0))) := by
   have rD : V.drew.ownsRow 0 61 3 (.slice (some ⟨b, 0, none⟩) n c) n (rowsOf slCells zs) := rowV
   have hst := put3at_fr V.drew b (i * 3) (.string key) (.string val) (.int .i64 0)
   have hlen : (putZ key val zs).length = n := by rw [HTH.out]; simp; omega
   refine leafPut_fin (a := some ⟨b, 0, none⟩) (c := c) ?_ ?_ ?_ hPL ?_
   ·rw [hN]
    exact (FV.trans (Fr.of_below ((Below.refl _ V).drew))).trans (hst.weak (fun g e => .inl (by rw [e]; exact hbb.1)))
   ·rw [hlen]; exact (hst.block L (by show L < V.heap.size; omega) (fun e => hbb.2.1 e.symm)).trans boxV
   ·rw [hlen]
    have hr : rowsOf slCells (putZ key val zs) = (rowsOf slCells zs).take (i * 3) ++ [.string key, .string val, .int .i64 0] ++ (rowsOf slCells zs).drop (i * 3 + 3) := by
     rw [HTH.out, rowsOf_append, rowsOf_takeG sl3, show i * 3 + 3 = (i + 1) * 3 by omega, ← rowsOf_dropG sl3, List.append_assoc]
     rfl
    rw [hr]
    exact put3at_row rD (by omega)
   ·rw [hlen]; exact fun g hg => ⟨.inl (hblk0 g hg).1, (hblk0 g hg).2.1⟩
  have hSBl : N < V.heap.size := by omega
  have hLl : L < V.heap.size := by omega
  have hbl : b < V.heap.size := by omega
  have hbN : b ≠ N := by omega
  have hbL := hbb.2.1
  clear hblk0 rowV FV h1 h2 hpos hsome hg hcs htk
  go_upto_region 4 with fail
  refine wp_region_noPanic ?_
  refine wp_region_held_drew (S := (fun w' : World => w'.heap[N]? = some (.cells #[.string key, .string val, .int .i64 0] 61) ∧ w'.heap[L]? = some (.cells #[.int .i64 0, .slice (some ⟨b, 0, none⟩) n c] 111))) (by kernel_rfl) (⟨kbV, boxV⟩) (fun hHeld => ?_)
  refine tkB (i := 0) (v := .pointer (some ⟨L, 0, none⟩)) .z (by kernel_rfl) (fun _ _ _ h => h) (Or.inl ⟨by rfl, ?_⟩) (by assumption) ?_
  ·intro wq hSw; (try dsimp only at hSw); go_simp
  try simp only [Act.put, q1, q2, q3]
  refine tkB (i := 1) (v := .pointer (some ⟨L, 0, none⟩)) (.s .z) (by kernel_rfl) (fun _ _ _ h => h) (Or.inl ⟨by rfl, ?_⟩) (by assumption) ?_
  ·intro wq hSw; (try dsimp only at hSw); go_simp
  try simp only [Act.put, q1, q2, q3]
  refine tkB (i := 2) (v := .pointer (some ⟨L, 1, none⟩)) (.s (.s .z)) (by kernel_rfl) (fun _ _ _ h => h) (Or.inl ⟨by rfl, ?_⟩) (by assumption) ?_
  ·intro wq hSw; (try dsimp only at hSw); go_simp
  try simp only [Act.put, q1, q2, q3]
  refine tkB (i := 3) (v := .slice (some ⟨b, 0, none⟩) n c) (.s (.s (.s .z))) (by kernel_rfl) (fun _ _ _ h => h) (Or.inl ⟨by rfl, ?_⟩) (by assumption) ?_
  ·intro wq hSw; (try dsimp only at hSw); obtain ⟨y0, y1⟩ := box_twoG hSw.2; go_simp
  try simp only [Act.put, q1, q2, q3]
  refine tkB (i := 4) (v := .int .i64 (i : Int)) (.s (.s (.s (.s .z)))) (by kernel_rfl) (fun _ _ _ h => h) (Or.inl ⟨by rfl, ?_⟩) (by assumption) ?_
  ·intro wq hSw; (try dsimp only at hSw); go_simp
  try simp only [Act.put, q1, q2, q3]
  refine tkB (i := 5) (v := .agg #[.string key, .string val, .int .i64 0]) (.f .z) (by kernel_rfl) (fun _ _ _ h => h) (Or.inl ⟨by rfl, ?_⟩) (by assumption) ?_
  ·intro wq hSw; (try dsimp only at hSw); obtain ⟨q0, q1, q2⟩ := box3w' hSw.1; go_simp
  try simp only [Act.put, q1, q2, q3]
  refine tkB (i := 6) (v := .pointer (some ⟨b, i * 3, none⟩)) (.f (.s .z)) (by kernel_rfl) (fun _ _ _ h => h) (Or.inl ⟨by rfl, ?_⟩) (by assumption) ?_
  ·intro wq hSw; (try dsimp only at hSw); go_simp
  try simp only [Act.put, q1, q2, q3]
  refine wpAnyH_ready (rs := [7]) (by kernel_rfl) (by simp) ?_
  refine rdA (.f (.s (.s .z))) (fun K hK => ?_) AllReadyH.nil
  go_simp
  have hst := put3at_fr V.drew b (i * 3) (.string key) (.string val) (.int .i64 0)
  refine hK.out _ _ (⟨(hst.block N hSBl (Ne.symm hbN)).trans kbV, (hst.block L hLl (Ne.symm hbL)).trans boxV⟩) (fun hHeld => ?_)
  clear hK K
  try simp only [Act.put, q1, q2, q3]
  refine wpAnyH_done (by kernel_rfl) ?_ _
  refine NoPanic.normal ?_
  go_wp2_with fail
  go_end0
  exact HFIN.out
def digF : Nat → Nat → List UInt8 → List UInt8
 | 0, _, out => out
 | f + 1, k, out => if k = 0 then out else digF f (k / 10) (UInt8.ofNat (48 + k % 10) :: out)
def mkS (k : Nat) : ByteArray := if k = 0 then ⟨#[109, 48]⟩ else ⟨(109 :: digF 40 k []).toArray⟩
theorem glue (x y : List UInt8) : (⟨x.toArray⟩ : ByteArray) ++ (⟨y.toArray⟩ : ByteArray) = ⟨(x ++ y).toArray⟩ := by
 rw [ByteArray.mk_append_mk]
theorem digit_run (kk : Nat) (wr : World) : (convert 132 9 (.slice (some ⟨wr.heap.size, 0, none⟩) 1 1)).run Tryz.prog (wr.alloc (.cells #[.int .u8 (48 + (kk : Int) % 10)] 5)) = .ok (.string ⟨#[UInt8.ofNat (48 + kk % 10)]⟩) (wr.alloc (.cells #[.int .u8 (48 + (kk : Int) % 10)] 5)) := by
 refine run_convert_bytes_back (P := Tryz.prog) _ 132 9 5 ⟨wr.heap.size, 0, none⟩ 1 [UInt8.ofNat (48 + kk % 10)] Tryz.underlying132 Tryz.underlying5 Tryz.underlying9 ?_
 intro j hj
 simp at hj
 subst hj
 have e : (((UInt8.ofNat (48 + kk % 10)).toNat : Nat) : Int) = 48 + (kk : Int) % 10 := by
  rw [UInt8.toNat_ofNat']
  omega
 simp [Addr.add]
 omega
set_option maxHeartbeats 400000 in
theorem markText_any (k : Nat) (w : World) (hk : k ≤ 1099511627776) :
  Calls Tryz.prog 74 #[.int .i64 k] w fun e w' => e = .returned (.string (mkS k)) ∧ Below w.heap.size w w' := by
 by_cases h0 : k = 0
 ·subst h0
  go_enter Tryz.func74, Tryz.ntmps74
  go_wp2
  go_ret
  exact ⟨rfl, Below.refl _ _⟩
 ·go_enter Tryz.func74, Tryz.ntmps74
  go_wp2
  go_loopw [0, 3] (fun kv o wr => ∃ (kk f : Nat) (out : List UInt8), kv = .int .i64 kk ∧ kk ≤ 1099511627776 ∧ o = .string ⟨out.toArray⟩ ∧ Hid (digF 40 k [] = digF f kk out) ∧ Hid (kk < 10 ^ f) ∧ out.length ≤ 40 ∧ Hid (out.length + f = 40) ∧ Below w.heap.size w wr) (fun kv _ _ => (intOf kv).toNat)
  case atStart => exact ⟨k, 40, [], rfl, hk, rfl, rfl, by show _ < _; omega, by simp, by show _ = _; simp, Below.refl _ _⟩
  case round =>
   obtain ⟨kk, f, out, rfl, hkk, rfl, hd, hf, hol, hof, hbel⟩ := hrel
   by_cases hz : kk = 0
   ·subst hz
    have HE : Hid ((⟨#[109]⟩ : ByteArray) ++ ⟨out.toArray⟩ = mkS k) := by
     show _ = _
     rw [show (⟨#[109]⟩ : ByteArray) = ⟨[109].toArray⟩ from rfl, glue]
     unfold mkS
     rw [if_neg h0, hd.out]
     cases f <;> simp [digF]
    go_wp2
    go_ret
    exact ⟨by rw [← HE.out]; rfl, hbel⟩
   ·have hp : (0 : Int) < (kk : Int) := by omega
    have hrun := digit_run kk wr
    cases f with
    | zero => have := hf.out; simp at this; omega
    | succ f =>
     have HD : Hid (digF 40 k [] = digF f (kk / 10) (UInt8.ofNat (48 + kk % 10) :: out)) := by
      show _ = _
      rw [hd.out]
      simp [digF, hz]
     have HF : Hid (kk / 10 < 10 ^ f) := by
      have := hf.out
      show kk / 10 < 10 ^ f
      rw [Nat.div_lt_iff_lt_mul (by omega), ← Nat.pow_succ]
      exact this
     have HG : Hid ((⟨#[UInt8.ofNat (48 + kk % 10)]⟩ : ByteArray) ++ ⟨out.toArray⟩ = ⟨(UInt8.ofNat (48 + kk % 10) :: out).toArray⟩) := glue [UInt8.ofNat (48 + kk % 10)] out
     have hlen : out.length + 1 ≤ 40 := by have := hof.out; omega
     have hof2 : Hid ((UInt8.ofNat (48 + kk % 10) :: out).length + f = 40) := by show _ = _; have := hof.out; simp; omega
     have hb2 := hbel.alloc hbel.size (.cells #[.int .u8 (48 + (kk : Int) % 10)] 5)
     generalize UInt8.ofNat (48 + kk % 10) = dg at *
     go_wp2
     go_roundw
     case rel => exact ⟨kk / 10, f, dg :: out, by go_num, by omega, by rw [HG.out], HD, HF, by simpa using hlen, hof2, hb2⟩
     case measure => simp [intOf]; omega
def marks (k : Nat) (n : Nat) : List Int := (List.range n).map fun j => ((k + j : Nat) : Int) % 256
def MarkRes (w w' : World) (base : Nat) (v : Value) (n k : Nat) : Prop := w'.ownsRow base 5 1 v n (u8s (marks k n)) ∧ w.grownBy w' v.ownBlock
structure MkW (lo hi : Nat) (w w' : World) : Prop where
 fr : Fr (fun k => lo ≤ k ∧ k < hi) w w'
 room : ∀ b o, b < w.heap.size → (∃ v, w.cell? ⟨b, o, none⟩ = some v) → w.frozen? ⟨b, o, none⟩ = false → (∃ v, w'.cell? ⟨b, o, none⟩ = some v) ∧ w'.frozen? ⟨b, o, none⟩ = false
theorem MkW.refl (lo hi : Nat) (w : World) : MkW lo hi w w := ⟨Fr.refl _ _, fun b o _ h1 h2 => ⟨h1, h2⟩⟩
theorem MkW.trans {lo hi : Nat} {a b c : World} (h : MkW lo hi a b) (k : MkW lo hi b c) : MkW lo hi a c :=
 ⟨h.fr.trans k.fr, fun b o hb h1 h2 => by
  obtain ⟨g1, g2⟩ := h.room b o hb h1 h2
  exact k.room b o (Nat.lt_of_lt_of_le hb h.fr.size) g1 g2⟩
theorem MkW.of_below {lo hi : Nat} {w w' : World} (hb : Below w.heap.size w w') : MkW lo hi w w' :=
 ⟨Fr.of_below hb, fun b o hl h1 h2 => by
  have hk := hb.block b hl
  obtain ⟨v, hv⟩ := h1
  exact ⟨⟨v, (World.cell?_of_block (w := w) (a := ⟨b, o, none⟩) hk).trans hv⟩, by simpa [World.frozen?, hk] using h2⟩⟩
theorem MkW.set {lo hi : Nat} (w : World) (b o : Nat) (v : Value) (hl : lo ≤ b) (hh : b < hi) : MkW lo hi w (w.setCell ⟨b, o, none⟩ v) :=
 ⟨(fr_setT w b o v).weak (fun g e => ⟨by omega, by omega⟩), fun b' o' _ h1 h2 => room_set w _ v b' o' h1 h2⟩
def RoomU (w : World) (lo hi : Nat) (a : Option Addr) (n : Nat) : Prop := 0 < n → ∃ b off, a = some ⟨b, off, none⟩ ∧ (lo ≤ b ∧ b < hi) ∧ ∀ i, i < n → (∃ v, w.cell? ⟨b, off + i, none⟩ = some v) ∧ w.frozen? ⟨b, off + i, none⟩ = false
theorem RoomU.mk {w w' : World} {lo hi lo' hi' : Nat} {a : Option Addr} {n : Nat} (h : RoomU w lo hi a n) (hm : MkW lo' hi' w w') (hh : hi ≤ w.heap.size) : RoomU w' lo hi a n := fun hn => by
 obtain ⟨b, off, e, hl, hc⟩ := h hn
 exact ⟨b, off, e, hl, fun i hi => hm.room b (off + i) (by omega) (hc i hi).1 (hc i hi).2⟩
def MarkU (w : World) (lo hi g n : Nat) (ts : List TN) : Prop := g < hi ∧ ∃ xs, w.ownsRow lo 81 6 (.slice (some ⟨g, 0, none⟩) n n) n xs ∧ ts.length = n ∧ ∀ j, j < n → ∃ ka kn kc va vn vc oa on oc ya yn yc, xs[j * 6 + 2]? = some (.slice ka kn kc) ∧ xs[j * 6 + 3]? = some (.slice va vn vc) ∧ xs[j * 6 + 4]? = some (.slice oa on oc) ∧ xs[j * 6 + 5]? = some (.slice ya yn yc) ∧
 (kn = (ts.getD j dT).keys.length ∧ vn = (ts.getD j dT).vals.length ∧ on = (ts.getD j dT).over.length ∧ yn = (ts.getD j dT).kids.length) ∧ (RoomU w (g + 1) hi ka kn ∧ RoomU w (g + 1) hi va vn ∧ RoomU w (g + 1) hi oa on ∧ RoomU w (g + 1) hi ya yn)
theorem MarkT.u {w : World} {lo g n : Nat} {ts : List TN} (h : MarkT w lo g n ts) : MarkU w lo w.heap.size g n ts := by
 obtain ⟨xs, h1, h2, h3⟩ := h
 exact ⟨(h1.lt g rfl).2, xs, h1, h2, h3⟩
theorem MarkU.below {w w' : World} {lo hi g n : Nat} {ts : List TN} (h : MarkU w lo hi g n ts) (hb : Below w.heap.size w w') (hh : hi ≤ w.heap.size) : MarkU w' lo hi g n ts := by
 obtain ⟨h0, xs, h1, h2, h3⟩ := h
 have hm : MkW 0 0 w w' := MkW.of_below hb
 refine ⟨h0, xs, owns_below h1 hb, h2, fun j hj => ?_⟩
 obtain ⟨ka, kn, kc, va, vn, vc, oa, on, oc, ya, yn, yc, e2, e3, e4, e5, e6, m1, m2, m3, m4⟩ := h3 j hj
 exact ⟨ka, kn, kc, va, vn, vc, oa, on, oc, ya, yn, yc, e2, e3, e4, e5, e6, m1.mk hm hh, m2.mk hm hh, m3.mk hm hh, m4.mk hm hh⟩
set_option maxHeartbeats 1000000 in
theorem markStringS_room (a : Option Addr) (n c k lo hi : Nat) (w : World) (h : RoomU w lo hi a n) (hh : hi ≤ w.heap.size) (hk : k + n ≤ 1000000000) :
  Calls Tryz.prog 56 #[.slice a n c, .int .i64 k] w fun e w' => e = .returned (.int .i64 (k + n : Nat)) ∧ MkW lo hi w w' := by
 have H : Hid (RoomU w lo hi a n) := h
 clear h
 go_enter Tryz.func56, Tryz.ntmps56
 go_wp2_with fail
 go_loopw [1, 5] (fun kv i wr => ∃ j : Nat, j ≤ n ∧ i = .int .i64 j ∧ kv = .int .i64 ((k + j : Nat) : Int) ∧ MkW lo hi w wr) (fun _ i _ => n - (intOf i).toNat)
 case atStart => exact ⟨0, Nat.zero_le _, rfl, rfl, MkW.refl _ _ _⟩
 case round =>
  obtain ⟨j, hj, rfl, rfl, hm⟩ := hrel
  by_cases hlt : j < n
  ·obtain ⟨b, off, rfl, hl, hc⟩ := H.out (by omega)
   have hbl := Nat.lt_of_lt_of_le (Nat.lt_of_lt_of_le hl.2 hh) hm.fr.size
   have hmt := markText_any (k + j) wr (by omega)
   generalize mkS (k + j) = ms at *
   go_wp2_with fail
   refine hmt.mono ?_
   rintro e w2 ⟨rfl, hb2⟩
   have hm2 := hm.trans (MkW.of_below hb2)
   obtain ⟨⟨u, hu⟩, hf⟩ := hm2.room b (off + j) (by omega) (hc j hlt).1 (hc j hlt).2
   have hm3 := hm2.trans (MkW.set w2 b (off + j) (.string ms) hl.1 hl.2)
   have hbl2 := Nat.lt_of_lt_of_le hbl hb2.size
   clear hmt hm hc
   go_wp2_with fail
   go_roundw
   case rel => exact ⟨j + 1, by omega, by go_num, by go_num, hm3⟩
   case measure => simp [intOf]; omega
  ·have hje : j = n := by omega
   subst hje
   go_wp2_with fail
   go_ret
   exact ⟨rfl, hm⟩
set_option maxHeartbeats 1000000 in
theorem markInt64S_room (a : Option Addr) (n c k lo hi : Nat) (w : World) (h : RoomU w lo hi a n) (hh : hi ≤ w.heap.size) (hk : k + n ≤ 1000000000) :
  Calls Tryz.prog 57 #[.slice a n c, .int .i64 k] w fun e w' => e = .returned (.int .i64 (k + n : Nat)) ∧ MkW lo hi w w' := by
 have H : Hid (RoomU w lo hi a n) := h
 clear h
 go_enter Tryz.func57, Tryz.ntmps57
 go_wp2_with fail
 go_loopw [1, 5] (fun kv i wr => ∃ j : Nat, j ≤ n ∧ i = .int .i64 j ∧ kv = .int .i64 ((k + j : Nat) : Int) ∧ MkW lo hi w wr) (fun _ i _ => n - (intOf i).toNat)
 case atStart => exact ⟨0, Nat.zero_le _, rfl, rfl, MkW.refl _ _ _⟩
 case round =>
  obtain ⟨j, hj, rfl, rfl, hm⟩ := hrel
  by_cases hlt : j < n
  ·obtain ⟨b, off, rfl, hl, hc⟩ := H.out (by omega)
   have hbl := Nat.lt_of_lt_of_le (Nat.lt_of_lt_of_le hl.2 hh) hm.fr.size
   obtain ⟨⟨u, hu⟩, hf⟩ := hm.room b (off + j) (by omega) (hc j hlt).1 (hc j hlt).2
   obtain ⟨kj, hkj⟩ : ∃ kj, k + j = kj := ⟨_, rfl⟩
   have HKJ : Hid (k + j = kj) := hkj
   rw [hkj]
   have hkb : kj + 1 ≤ 1000000000 := by omega
   clear hkj
   have hm3 := hm.trans (MkW.set wr b (off + j) (.int .i64 (kj : Int)) hl.1 hl.2)
   clear hm hc
   go_wp2_with fail
   go_roundw
   case rel => exact ⟨j + 1, by omega, by go_num, by have := HKJ.out; rw [show k + (j + 1) = kj + 1 by omega]; go_num, hm3⟩
   case measure => simp [intOf]; omega
  ·have hje : j = n := by omega
   subst hje
   go_wp2_with fail
   go_ret
   exact ⟨rfl, hm⟩
theorem MkW.lower {lo lo' hi : Nat} {w w' : World} (h : MkW lo' hi w w') (hl : lo ≤ lo') : MkW lo hi w w' := ⟨h.fr.weak (fun k hk => ⟨by omega, hk.2⟩), h.room⟩
def mLen (t : TN) : Nat := 2 + t.keys.length + t.vals.length + t.over.length + t.kids.length
def mLens (ts : List TN) : Nat := (ts.map mLen).sum
theorem mLens_le (ts : List TN) : (mLens ts : Int) ≤ 3 * wTNs ts := by
 unfold mLens
 induction ts with
 | nil => simp [wTNs]
 | cons t r ih =>
  have h1 := wStrs_len t.keys
  have h2 := wStrs_len t.vals
  simp only [List.map_cons, List.sum_cons, wTNs, wTN, mLen] at ih ⊢
  push_cast at ih ⊢
  omega
def HdOk (xs ys : List Value) (n : Nat) : Prop := ∀ i, i < n → ∀ r, 2 ≤ r → r < 6 → ys[i * 6 + r]? = xs[i * 6 + r]?
theorem HdOk.set2 {xs ys : List Value} {n j : Nat} {u v : Value} (h : HdOk xs ys n) : HdOk xs ((ys.set (j * 6) u).set (j * 6 + 1) v) n := fun i hi r h2 h6 => by
 rw [List.getElem?_set_ne (by omega), List.getElem?_set_ne (by omega)]
 exact h i hi r h2 h6
set_option maxHeartbeats 4000000 in
theorem markTNodeS_room (g n k lo hi : Nat) (ts : List TN) (w : World) (h : MarkU w lo hi g n ts) (hh : hi ≤ w.heap.size) (hk : k + mLens ts ≤ 100000000) :
  Calls Tryz.prog 31 #[.slice (some ⟨g, 0, none⟩) n n, .int .i64 k] w fun e w' => e = .returned (.int .i64 (k + mLens ts : Nat)) ∧ MkW lo hi w w' := by
 obtain ⟨hghi, xs, hown0, hlen, hx⟩ := h
 have HX : Hid (∀ j, j < n → ∃ ka kn kc va vn vc oa on oc ya yn yc, xs[j * 6 + 2]? = some (.slice ka kn kc) ∧ xs[j * 6 + 3]? = some (.slice va vn vc) ∧ xs[j * 6 + 4]? = some (.slice oa on oc) ∧ xs[j * 6 + 5]? = some (.slice ya yn yc) ∧ (kn = (ts.getD j dT).keys.length ∧ vn = (ts.getD j dT).vals.length ∧ on = (ts.getD j dT).over.length ∧ yn = (ts.getD j dT).kids.length) ∧ (RoomU w (g + 1) hi ka kn ∧ RoomU w (g + 1) hi va vn ∧ RoomU w (g + 1) hi oa on ∧ RoomU w (g + 1) hi ya yn)) := hx
 have HL : Hid (ts.length = n) := hlen
 have hgl := hown0.lt g rfl
 have hnm : n ≤ 100000000 := by
  have : ts.length ≤ mLens ts := by
   unfold mLens
   clear hx HX hk hlen HL hown0
   induction ts with
   | nil => simp
   | cons t r ih => simp only [List.map_cons, List.sum_cons, List.length_cons, mLen] at ih ⊢; omega
  omega
 have HMB : Hid (k + mLens ts ≤ 100000000) := hk
 clear hx hlen hk
 go_enter Tryz.func31, Tryz.ntmps31
 go_wp2_with fail
 go_loopw [1, 5] (fun kv i wr => ∃ (j kk : Nat) (ys : List Value), j ≤ n ∧ i = .int .i64 j ∧ kv = .int .i64 (kk : Int) ∧ kk ≤ 100000000 ∧ Hid (kk = k + ((ts.map mLen).take j).sum) ∧ wr.ownsRow lo 81 6 (.slice (some ⟨g, 0, none⟩) n n) n ys ∧ Hid (HdOk xs ys n) ∧ MkW lo hi w wr) (fun _ i _ => n - (intOf i).toNat)
 case atStart => exact ⟨0, k, xs, Nat.zero_le _, rfl, rfl, by have := HMB.out; omega, by show _ = _; simp, hown0, fun i hi r h2 h6 => rfl, MkW.refl _ _ _⟩
 case round =>
  clear hown0
  obtain ⟨j, kk, ys, hj, rfl, rfl, hkk, HK, hown, HH, hm⟩ := hrel
  by_cases hlt : j < n
  ·obtain ⟨ka, kn, kc, va, vn, vc, oa, on, oc, ya, yn, yc, e2, e3, e4, e5, ⟨l1, l2, l3, l4⟩, m1, m2, m3, m4⟩ := HX.out j hlt
   have HS : Hid (((ts.map mLen).take (j + 1)).sum = ((ts.map mLen).take j).sum + (2 + kn + vn + on + yn) ∧ ((ts.map mLen).take (j + 1)).sum ≤ mLens ts) := by
    have hjl : j < ts.length := by have := HL.out; omega
    refine ⟨?_, sum_take_le _ _⟩
    rw [sum_take_succ (by simpa using hjl), l1, l2, l3, l4]
    simp [List.getD, hjl, mLen]
   have hkb : kk + (2 + kn + vn + on + yn) ≤ 100000000 := by
    have h1 := HK.out; have h2 := HS.out; have h3 := HMB.out
    omega
   clear l1 l2 l3 l4
   have M1 : Hid (RoomU w (g + 1) hi ka kn) := m1
   have M2 : Hid (RoomU w (g + 1) hi va vn) := m2
   have M3 : Hid (RoomU w (g + 1) hi oa on) := m3
   have M4 : Hid (RoomU w (g + 1) hi ya yn) := m4
   clear m1 m2 m3 m4
   have hglr := hown.lt g rfl
   have hyl := hown.1
   have hf0 := hown.frozenAt (j * 6)
   have hf1 := hown.frozenAt (j * 6 + 1)
   obtain ⟨u0, hu0⟩ : ∃ u, wr.cell? ⟨g, j * 6, none⟩ = some u := ⟨ys[j * 6]'(by omega), by rw [hown.cellAt (j * 6) (by omega)]; exact List.getElem?_eq_getElem _⟩
   obtain ⟨u1, hu1⟩ : ∃ u, wr.cell? ⟨g, j * 6 + 1, none⟩ = some u := ⟨ys[j * 6 + 1]'(by omega), by rw [hown.cellAt (j * 6 + 1) (by omega)]; exact List.getElem?_eq_getElem _⟩
   have R2 := (hown.stored (j * 6) (.bool (((kk : Int) % 3) == 0))).1.stored (j * 6 + 1) (.int .i64 ((kk : Int) + 1))
   have HD2 : Hid (HdOk xs ((ys.set (j * 6) (.bool (((kk : Int) % 3) == 0))).set (j * 6 + 1) (.int .i64 ((kk : Int) + 1))) n) := HH.out.set2
   have MW2 := (hm.trans (MkW.set wr g (j * 6) (.bool (((kk : Int) % 3) == 0)) hgl.1 hghi)).trans (MkW.set (wr.setCell ⟨g, j * 6, none⟩ (.bool (((kk : Int) % 3) == 0))) g (j * 6 + 1) (.int .i64 ((kk : Int) + 1)) hgl.1 hghi)
   have hW2 := R2.1
   go_upto_region 8 with fail
   replace R2 := hW2
   generalize ((wr.setCell ⟨g, j * 6, none⟩ (.bool (((kk : Int) % 3) == 0))).setCell ⟨g, j * 6 + 1, none⟩ (.int .i64 ((kk : Int) + 1))) = W2 at *
   generalize ((ys.set (j * 6) (.bool (((kk : Int) % 3) == 0))).set (j * 6 + 1) (.int .i64 ((kk : Int) + 1))) = zs at *
   clear hf0 hf1 hu0 hu1 hown hm HH hW2 hyl hglr
   have gW2 := (R2.lt g rfl).2
   have xc : ∀ (W : World), W.ownsRow lo 81 6 (.slice (some ⟨g, 0, none⟩) n n) n zs → ∀ r, 2 ≤ r → r < 6 → W.cell? ⟨g, j * 6 + r, none⟩ = xs[j * 6 + r]? := fun W hW r h2 h6 => by
    rw [hW.cellAt (j * 6 + r) (by omega)]
    exact HD2.out j hlt r h2 h6
   have XC : Hid _ := xc
   clear xc
   obtain ⟨k2, hk2⟩ : ∃ k2, kk + 2 = k2 := ⟨_, rfl⟩
   have hcast : (kk : Int) + 1 + 1 = (k2 : Int) := by omega
   rw [hcast]
   clear hcast
   have x2 := (XC.out W2 R2 2 (by omega) (by omega)).trans e2
   have hc2 := markStringS_room ka kn kc k2 (g + 1) hi W2 (M1.out.mk MW2 hh) (Nat.le_trans hh MW2.fr.size) (by omega)
   go_wp2_with fail
   refine hc2.mono ?_
   rintro e w3 ⟨rfl, hmk⟩
   have MW3 := MW2.trans (hmk.lower (lo := lo) (by omega))
   have R3 := owns_fr R2 hmk.fr (fun q hq e => by simp [Value.ownBlock] at hq; omega)
   have g3 := (R3.lt g rfl).2
   have x3 := (XC.out w3 R3 3 (by omega) (by omega)).trans e3
   obtain ⟨k3, hk3⟩ : ∃ k3, k2 + kn = k3 := ⟨_, rfl⟩
   rw [hk3]
   clear hc2 hmk R2 MW2 x2 gW2
   have hc3 := markStringS_room va vn vc k3 (g + 1) hi w3 (M2.out.mk MW3 hh) (Nat.le_trans hh MW3.fr.size) (by omega)
   go_wp2_with fail
   refine hc3.mono ?_
   rintro e w4 ⟨rfl, hmk⟩
   have MW4 := MW3.trans (hmk.lower (lo := lo) (by omega))
   have R4 := owns_fr R3 hmk.fr (fun q hq e => by simp [Value.ownBlock] at hq; omega)
   have g4 := (R4.lt g rfl).2
   have x4 := (XC.out w4 R4 4 (by omega) (by omega)).trans e4
   obtain ⟨k4, hk4⟩ : ∃ k4, k3 + vn = k4 := ⟨_, rfl⟩
   rw [hk4]
   clear hc3 hmk R3 MW3 x3 g3
   have hc4 := markInt64S_room oa on oc k4 (g + 1) hi w4 (M3.out.mk MW4 hh) (Nat.le_trans hh MW4.fr.size) (by omega)
   go_wp2_with fail
   refine hc4.mono ?_
   rintro e w5 ⟨rfl, hmk⟩
   have MW5 := MW4.trans (hmk.lower (lo := lo) (by omega))
   have R5 := owns_fr R4 hmk.fr (fun q hq e => by simp [Value.ownBlock] at hq; omega)
   have g5 := (R5.lt g rfl).2
   have x5 := (XC.out w5 R5 5 (by omega) (by omega)).trans e5
   obtain ⟨k5, hk5⟩ : ∃ k5, k4 + on = k5 := ⟨_, rfl⟩
   rw [hk5]
   clear hc4 hmk R4 MW4 x4 g4
   have hc5 := markInt64S_room ya yn yc k5 (g + 1) hi w5 (M4.out.mk MW5 hh) (Nat.le_trans hh MW5.fr.size) (by omega)
   go_wp2_with fail
   refine hc5.mono ?_
   rintro e w6 ⟨rfl, hmk⟩
   have MW6 := MW5.trans (hmk.lower (lo := lo) (by omega))
   have R6 := owns_fr R5 hmk.fr (fun q hq e => by simp [Value.ownBlock] at hq; omega)
   obtain ⟨k6, hk6⟩ : ∃ k6, k5 + yn = k6 := ⟨_, rfl⟩
   rw [hk6]
   clear hc5 hmk R5 MW5 x5 g5
   have HK6 : Hid (k6 = k + ((ts.map mLen).take (j + 1)).sum) := by
    show _ = _
    have h1 := HK.out; have h2 := HS.out.1
    omega
   have hk6b : k6 ≤ 100000000 := by omega
   clear hk2 hk3 hk4 hk5 hk6 HK HS hkb XC e2 e3 e4 e5
   go_wp2_with fail
   go_roundw
   case rel => exact ⟨j + 1, k6, zs, by omega, by go_num, rfl, hk6b, HK6, R6, HD2, MW6⟩
   case measure => simp [intOf]; omega
  ·have HE : Hid (kk = k + mLens ts) := by
    have h1 := HK.out
    rw [List.take_of_length_le (by simp; have := HL.out; omega)] at h1
    exact h1
   clear HK hown HH
   go_wp2_with fail
   go_ret
   exact ⟨by rw [← HE.out]; rfl, hm⟩
set_option maxHeartbeats 1000000 in
theorem markTree_room (g n k lo hi : Nat) (ts : List TN) (w : World) (h : MarkU w lo hi g n ts) (hh : hi ≤ w.heap.size) (hk : k + mLens ts ≤ 100000000) :
  Calls Tryz.prog 11 #[.agg #[.slice (some ⟨g, 0, none⟩) n n], .int .i64 k] w fun e w' => e = .returned (.int .i64 (k + mLens ts : Nat)) ∧ MkW lo hi w w' := by
 have ab := (Below.refl w.heap.size w).alloc (Nat.le_refl _) (.cells #[.slice (some ⟨g, 0, none⟩) n n] 28)
 have hc := markTNodeS_room g n k lo hi ts _ (h.below ab hh) (Nat.le_trans hh ab.size) hk
 obtain ⟨kr, hkr⟩ : ∃ kr, k + mLens ts = kr := ⟨_, rfl⟩
 rw [hkr] at hc hk ⊢
 go_enter Tryz.func11, Tryz.ntmps11
 go_wp2_with fail
 refine hc.mono ?_
 rintro e w1 ⟨rfl, hm⟩
 have hm2 := (MkW.of_below (lo := lo) (hi := hi) ab).trans hm
 clear hc hm h hkr
 go_wp2_with fail
 go_ret
 exact ⟨rfl, hm2⟩
def mkSs (k n : Nat) : List ByteArray := (List.range n).map fun j => mkS (k + j)
def mkIs (k n : Nat) : List Int := (List.range n).map fun j => ((k + j : Nat) : Int)
theorem mkSs_get (k n j : Nat) (h : j < n) : (mkSs k n).getD j ByteArray.empty = mkS (k + j) := by simp [mkSs, List.getD, h]
theorem mkIs_get (k n j : Nat) (h : j < n) : (mkIs k n).getD j 0 = ((k + j : Nat) : Int) := by simp [mkIs, List.getD, h]
theorem mkSs_len (k n : Nat) : (mkSs k n).length = n := by simp [mkSs]
theorem mkIs_len (k n : Nat) : (mkIs k n).length = n := by simp [mkIs]
theorem row_set {α : Type} {cs : α → List Value} (hc : ∀ x, (cs x).length = 1) {ys : List Value} {zs : List α} {d : α} {n j : Nat} {v : Value} (hl : zs.length = n) (hyl : ys.length = n) (hj : j < n) (hv : cs (zs.getD j d) = [v]) (h : ∀ r, r < j → ys[r]? = (rowsOf cs zs)[r]?) : ∀ r, r < j + 1 → (ys.set j v)[r]? = (rowsOf cs zs)[r]? := fun r hr => by
 by_cases hrj : r = j
 ·subst hrj
  have e0 := rowsOf_get hc d zs r 0 (by omega) (by omega)
  rw [Nat.mul_one, Nat.add_zero, hv] at e0
  rw [List.getElem?_set_self (by omega), e0]
  rfl
 ·rw [List.getElem?_set_ne (by omega)]
  exact h r (by omega)
theorem some_of_lt {w : World} {base e size : Nat} {a : Option Addr} {n c : Nat} {xs : List Value} (h : w.ownsRow base e size (.slice a n c) n xs) (hn : 0 < n) : ∃ g, a = some ⟨g, 0, none⟩ := by
 rcases h.2 with ⟨e1, e2⟩ | ⟨g, cap, cur, e1, _⟩
 ·omega
 ·simp only [Value.slice.injEq] at e1
  exact ⟨g, e1.1⟩
set_option maxHeartbeats 1000000 in
theorem markStringS_own (a : Option Addr) (n c k base : Nat) (xs : List Value) (w : World) (h : w.ownsRow base 9 1 (.slice a n c) n xs) (hk : k + n ≤ 1000000000) :
  Calls Tryz.prog 56 #[.slice a n c, .int .i64 k] w fun e w' => e = .returned (.int .i64 (k + n : Nat)) ∧ w'.ownsRow base 9 1 (.slice a n c) n (rowsOf strCells (mkSs k n)) ∧ Fr (fun b => some b = (Value.slice a n c).ownBlock) w w' := by
 have hn63 : n ≤ 1000000000 := by omega
 go_enter Tryz.func56, Tryz.ntmps56
 go_wp2_with fail
 go_loopw [1, 5] (fun kv i wr => ∃ (j : Nat) (ys : List Value), j ≤ n ∧ i = .int .i64 j ∧ kv = .int .i64 ((k + j : Nat) : Int) ∧ wr.ownsRow base 9 1 (.slice a n c) n ys ∧ Hid (∀ r, r < j → ys[r]? = (rowsOf strCells (mkSs k n))[r]?) ∧ Fr (fun b => some b = (Value.slice a n c).ownBlock) w wr) (fun _ i _ => n - (intOf i).toNat)
 case atStart => exact ⟨0, xs, Nat.zero_le _, rfl, rfl, h, fun r hr => by omega, Fr.refl _ _⟩
 case round =>
  clear h
  obtain ⟨j, ys, hj, rfl, rfl, hown, HG, hfr⟩ := hrel
  by_cases hlt : j < n
  ·obtain ⟨g, rfl⟩ := some_of_lt hown (by omega)
   have hgl := (hown.lt g rfl).2
   have hyl := hown.1
   have HG2 : Hid (∀ r, r < j + 1 → (ys.set j (.string (mkS (k + j))))[r]? = (rowsOf strCells (mkSs k n))[r]?) := row_set (d := ByteArray.empty) sc1 (mkSs_len k n) (by omega) hlt (by rw [mkSs_get _ _ _ hlt]; rfl) HG.out
   have hmt := markText_any (k + j) wr (by omega)
   generalize mkS (k + j) = ms at *
   go_wp2_with fail
   refine hmt.mono ?_
   rintro e w2 ⟨rfl, hb2⟩
   have hown2 := owns_below hown hb2
   have hgl2 := Nat.lt_of_lt_of_le hgl hb2.size
   have hf0 := hown2.frozenAt j
   obtain ⟨u0, hu0⟩ : ∃ u, w2.cell? ⟨g, j, none⟩ = some u := ⟨ys[j]'(by omega), by rw [hown2.cellAt j (by omega)]; exact List.getElem?_eq_getElem _⟩
   have R1 := (hown2.stored j (.string ms)).1
   have fr1 := (hfr.trans (Fr.of_below hb2)).trans ((fr_setT w2 g j (.string ms)).weak (T := fun b => some b = (Value.slice (some ⟨g, 0, none⟩) n c).ownBlock) (fun b e => by subst e; rfl))
   clear hmt hown hown2 hfr hb2 hgl HG
   go_wp2_with fail
   go_roundw
   case rel => exact ⟨j + 1, _, by omega, by go_num, by go_num, R1, HG2, fr1⟩
   case measure => simp [intOf]; omega
  ·have hje : j = n := by omega
   have hys : ys = rowsOf strCells (mkSs k n) := by
    refine List.ext_getElem? fun r => ?_
    by_cases hr : r < n
    ·exact HG.out r (by omega)
    ·rw [List.getElem?_eq_none (by rw [hown.1]; omega), List.getElem?_eq_none (by rw [rowsOf_length sc1, mkSs_len]; omega)]
   rw [hys] at hown
   have HOW : Hid (wr.ownsRow base 9 1 (.slice a n c) n (rowsOf strCells (mkSs k n))) := hown
   clear hown HG hys
   subst hje
   go_wp2_with fail
   go_ret
   exact ⟨rfl, HOW.out, hfr⟩
set_option maxHeartbeats 1000000 in
theorem markInt64S_own (a : Option Addr) (n c k base : Nat) (xs : List Value) (w : World) (h : w.ownsRow base 2 1 (.slice a n c) n xs) (hk : k + n ≤ 1000000000) :
  Calls Tryz.prog 57 #[.slice a n c, .int .i64 k] w fun e w' => e = .returned (.int .i64 (k + n : Nat)) ∧ w'.ownsRow base 2 1 (.slice a n c) n (rowsOf intCells (mkIs k n)) ∧ Fr (fun b => some b = (Value.slice a n c).ownBlock) w w' := by
 have hn63 : n ≤ 1000000000 := by omega
 go_enter Tryz.func57, Tryz.ntmps57
 go_wp2_with fail
 go_loopw [1, 5] (fun kv i wr => ∃ (j : Nat) (ys : List Value), j ≤ n ∧ i = .int .i64 j ∧ kv = .int .i64 ((k + j : Nat) : Int) ∧ wr.ownsRow base 2 1 (.slice a n c) n ys ∧ Hid (∀ r, r < j → ys[r]? = (rowsOf intCells (mkIs k n))[r]?) ∧ Fr (fun b => some b = (Value.slice a n c).ownBlock) w wr) (fun _ i _ => n - (intOf i).toNat)
 case atStart => exact ⟨0, xs, Nat.zero_le _, rfl, rfl, h, fun r hr => by omega, Fr.refl _ _⟩
 case round =>
  clear h
  obtain ⟨j, ys, hj, rfl, rfl, hown, HG, hfr⟩ := hrel
  by_cases hlt : j < n
  ·obtain ⟨g, rfl⟩ := some_of_lt hown (by omega)
   have hgl := (hown.lt g rfl).2
   have hyl := hown.1
   have HG2 : Hid (∀ r, r < j + 1 → (ys.set j (.int .i64 ((k + j : Nat) : Int)))[r]? = (rowsOf intCells (mkIs k n))[r]?) := row_set (d := (0 : Int)) ic1 (mkIs_len k n) (by omega) hlt (by rw [mkIs_get _ _ _ hlt]; rfl) HG.out
   obtain ⟨kj, hkj⟩ : ∃ kj, k + j = kj := ⟨_, rfl⟩
   have HKJ : Hid (k + j = kj) := hkj
   rw [hkj] at HG2 ⊢
   have hkb : kj + 1 ≤ 1000000000 := by omega
   clear hkj
   have hf0 := hown.frozenAt j
   obtain ⟨u0, hu0⟩ : ∃ u, wr.cell? ⟨g, j, none⟩ = some u := ⟨ys[j]'(by omega), by rw [hown.cellAt j (by omega)]; exact List.getElem?_eq_getElem _⟩
   have R1 := (hown.stored j (.int .i64 (kj : Int))).1
   have fr1 := hfr.trans ((fr_setT wr g j (.int .i64 (kj : Int))).weak (T := fun b => some b = (Value.slice (some ⟨g, 0, none⟩) n c).ownBlock) (fun b e => by subst e; rfl))
   clear hown hfr HG
   go_wp2_with fail
   go_roundw
   case rel => exact ⟨j + 1, _, by omega, by go_num, by have := HKJ.out; rw [show k + (j + 1) = kj + 1 by omega]; go_num, R1, HG2, fr1⟩
   case measure => simp [intOf]; omega
  ·have hje : j = n := by omega
   have hys : ys = rowsOf intCells (mkIs k n) := by
    refine List.ext_getElem? fun r => ?_
    by_cases hr : r < n
    ·exact HG.out r (by omega)
    ·rw [List.getElem?_eq_none (by rw [hown.1]; omega), List.getElem?_eq_none (by rw [rowsOf_length ic1, mkIs_len]; omega)]
   rw [hys] at hown
   have HOW : Hid (wr.ownsRow base 2 1 (.slice a n c) n (rowsOf intCells (mkIs k n))) := hown
   clear hown HG hys
   subst hje
   go_wp2_with fail
   go_ret
   exact ⟨rfl, HOW.out, hfr⟩
end Go.Proofs.YtbgbokgomheodaaGreat
