import Derived.Test.YtcmhobbpeaeebaaGAA
import Derived.ArgAppend
import Derived.Test.YtcmhobbpeaeebaaChecked
import Derived.WalkKit
import Derived.ProofKit
namespace Go.Proofs.Ytcmhobbpeaeebaa
open Go.RowKit
set_option linter.unusedVariables false
set_option maxRecDepth 100000

theorem own_lowerD {w : World} {b b' e size : Nat} {v : Value} {n : Nat} {xs : List Value} (h : w.ownsRow b e size v n xs) (hb : b' ≤ b) : w.ownsRow b' e size v n xs := by
  refine ⟨h.1, ?_⟩
  rcases h.2 with hn | ⟨g, cap, cur, e1, e2, e3⟩
  · exact .inl hn
  · exact .inr ⟨g, cap, cur, e1, Nat.le_trans hb e2, e3⟩

theorem grown_weakD {w w' : World} {row : Option Nat} (h : w.grownBy w' none) : w.grownBy w' row :=
  ⟨h.os, h.tape, h.output, h.size, fun k hk _ => h.block k hk (by simp)⟩

/-- 'append' to a slice of one's own, and where the answer lies: where it lay, or in a new block. -/
theorem run_append_ownD {P : Program} (w : World) (base : Nat) (t ty e : TypeId) (i : TypeInfo) (z : Value) (size bytes : Nat) (ht : P.underlying t = some (.slice e)) (hi : P.info? e = some i) (hz : i.zero = some z)
    (hsize : i.size = size) (hby : i.bytes = bytes) (hzs : z.cells.size = size) (hsz : 0 < size)
    (v : Value) (n : Nat) (xs : List Value) (hown : w.ownsRow base e size v n xs)
    (a : Addr) (m c : Nat) (news : List Value) (hl : news.length = m * size) (hnews : ∀ j u, news[j]? = some u → w.cell? (a.add j) = some u) (h1 : ∀ u ∈ news, u.oneCell' = true)
    (h63 : n + m ≤ maxLen) (hbytes : (n + m) * bytes ≤ 140737488355328) (hbase : base ≤ w.heap.size) :
    ∃ v' w', (Builtin.append_ #[t, t] ty #[v, .slice (some a) m c]).run P w = .ok v' w' ∧ w'.ownsRow base e size v' (n + m) (xs ++ news) ∧ w.grownBy w' v.ownBlock ∧
      (v'.ownBlock = v.ownBlock ∨ ∀ g, v'.ownBlock = some g → w.heap.size ≤ g) := by
  rcases hown.2 with ⟨rfl, rfl⟩ | ⟨g, cap, cur, rfl, hbg, hg, hnc, hcm, hcs, htake⟩
  · have hx : xs = [] := List.eq_nil_of_length_eq_zero (by simpa using hown.1)
    subst hx
    obtain ⟨v', w', hr, ho, hgr, _⟩ := run_append_own (P := P) w w.heap.size t ty e i z size bytes ht hi hz hsize hby hzs hsz _ 0 [] (World.ownsRow_nil w _ e size) a m c news hl hnews h1 h63 hbytes (Nat.le_refl _)
    exact ⟨v', w', hr, own_lowerD ho hbase, hgr, .inr fun k hk => (ho.lt k hk).1⟩
  · by_cases hroom : n + m ≤ cap
    · obtain ⟨v', w', hr, ho, hgr, _⟩ := run_append_own (P := P) w base t ty e i z size bytes ht hi hz hsize hby hzs hsz _ n xs hown a m c news hl hnews h1 h63 hbytes hbase
      subst hsize
      have hfit : n * i.size + news.length ≤ cur.size := by rw [hl, hcs, ← Nat.add_mul]; exact Nat.mul_le_mul_right _ hroom
      have hr2 := run_append_room (P := P) w t ty e i ht hi g n cap cur hg a m c news hl hnews h1 hroom hfit
      rw [hr] at hr2
      injection hr2 with e1 e2
      exact ⟨v', w', hr, ho, hgr, .inl (by rw [e1]; rfl)⟩
    · have holds : ∀ j u, xs[j]? = some u → w.cell? ((⟨g, 0, none⟩ : Addr).add j) = some u := hown.cells (g := g) rfl
      obtain ⟨v', w', hr, ho, hgr⟩ := run_append_arg_grows (P := P) w t ty e i z size bytes ht hi hz hsize hby hzs hsz ⟨g, 0, none⟩ n cap xs hown.1 holds a m c news hl hnews (by omega) h63 hbytes
      exact ⟨v', w', hr, own_lowerD ho hbase, grown_weakD hgr, .inr fun k hk => (ho.lt k hk).1⟩

theorem wpList_append_ownD {P : Program} (w : World) {ops : Array Oper} {rest : List Oper} {o : Oper} {a : Act} {Q : Exit → Act → World → Prop} (hgd : o.guard = none) (s x : Operand) (t : TypeId)
    (ho : o.op = .call { callee := .builtin .append, args := #[s, x], argTypes := #[t, t] })
    (base : Nat) (e : TypeId) (i : TypeInfo) (z : Value) (size bytes : Nat) (ht : P.underlying t = some (.slice e)) (hi : P.info? e = some i) (hz : i.zero = some z)
    (hsize : i.size = size) (hby : i.bytes = bytes) (hzs : z.cells.size = size) (hsz : 0 < size)
    (v : Value) (n : Nat) (xs : List Value) (hs : a.eval s = v) (hown : w.ownsRow base e size v n xs)
    (ad : Addr) (m c : Nat) (news : List Value) (hx : a.eval x = .slice (some ad) m c) (hl : news.length = m * size) (hnews : ∀ j u, news[j]? = some u → w.cell? (ad.add j) = some u) (h1 : ∀ u ∈ news, u.oneCell' = true)
    (h63 : n + m ≤ maxLen) (hbytes : (n + m) * bytes ≤ 140737488355328) (hbase : base ≤ w.heap.size)
    (h : ∀ v' w', w'.ownsRow base e size v' (n + m) (xs ++ news) → w.grownBy w' v.ownBlock → (v'.ownBlock = v.ownBlock ∨ ∀ g, v'.ownBlock = some g → w.heap.size ≤ g) → wpList P ops Q rest (a.put o.dst v') w') : wpList P ops Q (o :: rest) a w := by
  refine wpList_plain hgd fun _ hK => ?_
  obtain ⟨v', w', hr, h2, h3, h4⟩ := run_append_ownD (P := P) w base t o.type e i z size bytes ht hi hz hsize hby hzs hsz v n xs hown ad m c news hl hnews h1 h63 hbytes hbase
  unfold Oper.wp execOp
  simp only [ho, resolve, invoke, builtin, Sem.run_bind, Sem.run_pure, Result.andThen_ok, List.map_toArray, List.map_cons, List.map_nil, hs, hx, hr]
  exact hK _ _ (h v' w' h2 h3 h4)

end Go.Proofs.Ytcmhobbpeaeebaa
namespace Go.Proofs.Ytcmhobbpeaeebaa
open Go.RowKit
set_option linter.unusedVariables false
set_option maxRecDepth 100000

set_option maxHeartbeats 800000 in
theorem l1Many_any (s : ByteArray) (hs : s.size ≤ 16) (n : Nat) (hn : n ≤ 1000) (w : World) :
    Calls Try.prog 77 #[.string s, .int .i64 n] w fun e w' => ∃ t : ByteArray, e = .returned (.string t) ∧ t.size = s.size * n ∧ Below w.heap.size w w' := by
  go_enter Try.func77, Try.ntmps77
  go_wp2_with fail
  have hb0 : Below w.heap.size w (w.alloc (.cells #[] 5)) := (Below.refl _ _).alloc (Nat.le_refl _) _
  have hw0 : (w.alloc (.cells #[] 5)).ownsRow w.heap.size 5 1 (.slice (some ⟨w.heap.size, 0, none⟩) 0 0) 0 (u8s []) := by
    have := World.ownsRow_made w #[] (base := w.heap.size) (e := 5) (size := 1) 0 (by simp) (by unfold maxLen; omega) (by simp)
    simpa [u8s] using this
  go_loopw [5, 6] (fun v i wr => ∃ (k : Nat) (a : Option Addr) (c : Nat) (l : List Int), k ≤ n ∧ i = .int .i64 k ∧ l.length = s.size * k ∧ (∀ x ∈ l, 0 ≤ x ∧ x ≤ 255) ∧ v = .slice a (s.size * k) c ∧ wr.ownsRow w.heap.size 5 1 (.slice a (s.size * k) c) (s.size * k) (u8s l) ∧ Below w.heap.size w wr) (fun _ i _ => n - (intOf i).toNat)
  case atStart => exact ⟨0, some ⟨w.heap.size, 0, none⟩, 0, [], Nat.zero_le _, rfl, by simp, (by intro x hx; cases hx), rfl, hw0, hb0⟩
  case round =>
    clear hw0 hb0
    obtain ⟨k, a, c, l, hk, rfl, hl, hlb, rfl, hown, hbel⟩ := hrel
    have hm : s.size * k ≤ 16 * 1000 := Nat.mul_le_mul hs (by omega)
    have HL : Hid (l.length = s.size * k) := hl
    clear hl
    generalize hmk : s.size * k = m at hm HL hown ⊢
    have HM : Hid (s.size * k = m) := hmk
    clear hmk
    by_cases hlt : k < n
    · have hsz := hbel.size
      go_wp2_with (at_builtin; refine wpList_as rfl _ _ rfl w.heap.size _ m l rfl hown s rfl (by omega) (by omega) ?_; intro v' w1 hown1 hgr)
      obtain ⟨a', c', rfl⟩ := own_shape hown1
      have hb2 := hbel.grown hgr (by omega) (fun g hg => (hown.lt g hg).1)
      have hE : s.size * (k + 1) = m + s.size := by rw [Nat.mul_succ, HM.out]
      have HE : Hid (s.size * (k + 1) = m + s.size) := hE
      have HL2 : Hid ((l ++ strB s).length = s.size * (k + 1)) := by show _ = _; rw [List.length_append, strB_len, HL.out, hE]
      have HB2 : Hid (∀ x ∈ l ++ strB s, 0 ≤ x ∧ x ≤ 255) := by intro x hx; rcases List.mem_append.1 hx with h | h; exact hlb x h; exact strB_byte s x h
      clear hgr hown hE
      go_roundw
      case rel => exact ⟨k + 1, a', c', l ++ strB s, by omega, by go_num, HL2.out, HB2.out, by rw [HE.out], by rw [HE.out]; exact hown1, hb2⟩
      case measure => simp [intOf]; omega
    · have hkn : k = n := by omega
      subst hkn
      have hlen := HL.out
      have hB : BytesAt wr w.heap.size wr.heap.size a m c l := by
        have := bytesAt_of_own (v := .slice a m c) (bs := l) (by rw [hlen]; exact hown) hlb
        obtain ⟨a2, n2, c2, e, hB⟩ := this
        cases e
        exact hB
      have sc := str_conv hB
      clear hown HL
      go_wp2
      go_ret
      exact ⟨_, rfl, by rw [toB_size, hlen, HM.out], hbel⟩
theorem DCur.frg {w w' : World} {C A B : Nat} {S : Nat → Prop} (h : DCur w C A B) (hf : Fr S w w') (hS : ∀ g, S g → C < g) : DCur w' C A B := by
  obtain ⟨hBC, a, n, c, bs, i, hh, hbox, hi, hby⟩ := h
  have hl := (Array.getElem?_eq_some_iff.1 hbox).1
  exact ⟨hBC, a, n, c, bs, i, hh, (hf.block C hl (fun e => by have := hS _ e; omega)).trans hbox, hi, hby.keep (fun k k1 k2 => hf.block k (by omega) (fun e => by have := hS _ e; omega))⟩
theorem Fr.up2 {S T : Nat → Prop} {a b c : World} (h : Fr S a b) (k : Fr T b c) (hT : ∀ g, T g → a.heap.size ≤ g) : Fr S a c :=
  ⟨k.1.trans h.1, k.2.trans h.2, k.3.trans h.3, Nat.le_trans h.size k.size, fun g hg hS => (k.block g (Nat.lt_of_lt_of_le hg h.size) (fun e => by have := hT g e; omega)).trans (h.block g hg hS)⟩
end Go.Proofs.Ytcmhobbpeaeebaa
namespace Go.Proofs.Ytcmhobbpeaeebaa
open Go.RowKit
set_option linter.unusedVariables false
set_option maxRecDepth 100000

/-- A number's bytes, lowest first; highest first. -/
def leB : Nat → Int → List Int
  | 0, _ => []
  | n + 1, x => x % 256 :: leB n (x / 256)
def beB (n : Nat) (x : Int) : List Int := (leB n x).reverse
def numB (high : Bool) (n : Nat) (x : Int) : List Int := if high then beB n x else leB n x
def shr8 : Nat → Int → Int
  | 0, x => x
  | n + 1, x => shr8 n x / 256
theorem leB_len : ∀ n x, (leB n x).length = n
  | 0, _ => rfl
  | n + 1, x => by simp [leB, leB_len n]
theorem leB_byte : ∀ n x, ∀ y ∈ leB n x, 0 ≤ y ∧ y ≤ 255
  | 0, _, y, h => by cases h
  | n + 1, x, y, h => by
    rcases List.mem_cons.1 h with rfl | h
    · omega
    · exact leB_byte n _ y h
theorem shr8_in : ∀ n x, shr8 n (x / 256) = shr8 n x / 256
  | 0, _ => rfl
  | n + 1, x => by simp [shr8, shr8_in n]
theorem leB_snoc : ∀ n x, leB (n + 1) x = leB n x ++ [shr8 n x % 256]
  | 0, x => by simp [leB, shr8]
  | n + 1, x => by
    rw [leB, leB_snoc n (x / 256), leB, List.cons_append, shr8_in]
    rfl
theorem beB_len (n : Nat) (x : Int) : (beB n x).length = n := by simp [beB, leB_len]
theorem beB_succ (n : Nat) (x : Int) : beB (n + 1) x = (shr8 n x % 256) :: beB n x := by simp [beB, leB_snoc]
theorem numB_len (b : Bool) (n : Nat) (x : Int) : (numB b n x).length = n := by cases b <;> simp [numB, beB_len, leB_len]
theorem numB_byte (b : Bool) (n : Nat) (x : Int) : ∀ y ∈ numB b n x, 0 ≤ y ∧ y ≤ 255 := by
  cases b
  · exact leB_byte n x
  · intro y hy
    exact leB_byte n x y (by simpa [numB, beB] using hy)
theorem shr8_range {x : Int} (hx : I64 x) : ∀ n, I64 (shr8 n x)
  | 0 => hx
  | n + 1 => by
    have := shr8_range hx n
    unfold I64 at this ⊢
    simp only [shr8]
    omega

/-- One byte in a slice of its own. -/
theorem bytesAt_one (w : World) (x : Int) (hx : 0 ≤ x ∧ x ≤ 255) : BytesAt (w.alloc (.cells #[.int .u8 x] 5)) w.heap.size (w.heap.size + 1) (some ⟨w.heap.size, 0, none⟩) 1 1 [x] := by
  refine ⟨rfl, Nat.le_refl _, by unfold maxLen; omega, fun y hy => by simp at hy; omega, fun _ => ⟨w.heap.size, 0, rfl, ⟨Nat.le_refl _, Nat.lt_succ_self _⟩, fun i hi => ?_⟩, fun h => by cases h⟩
  obtain rfl : i = 0 := by omega
  simp

set_option maxHeartbeats 800000 in
theorem l2Put_low (x : Int) (hx : I64 x) (n : Nat) (hn : n ≤ 8) (w : World) :
    Calls Try.prog 40 #[.int .i64 x, .int .i64 n, .bool false] w fun e w' => ∃ v, e = .returned v ∧ w'.ownsRow w.heap.size 5 1 v n (u8s (leB n x)) ∧ Below w.heap.size w w' := by
  have hown0 : (w.alloc (.cells #[] 5)).ownsRow w.heap.size 5 1 (.slice (some ⟨w.heap.size, 0, none⟩) 0 0) 0 [] := World.ownsRow_made w #[] 0 (Nat.le_refl _) (by unfold maxLen; omega) (by simp)
  have hb0 : Below w.heap.size w (w.alloc (.cells #[] 5)) := (Below.refl _ _).alloc (Nat.le_refl _) _
  go_enter Try.func40, Try.ntmps40
  go_wp2_with fail
  go_loopw [0, 7, 8] (fun xv v i wr => ∃ k : Nat, k ≤ n ∧ i = .int .i64 k ∧ xv = .int .i64 (shr8 k x) ∧ wr.ownsRow w.heap.size 5 1 v k (u8s (leB k x)) ∧ Below w.heap.size w wr) (fun _ _ i _ => n - (intOf i).toNat)
  case atStart => exact ⟨0, Nat.zero_le _, rfl, rfl, hown0, hb0⟩
  case round =>
    clear hown0 hb0
    obtain ⟨k, hk, rfl, rfl, hown, hbel⟩ := hrel
    by_cases hlt : k < n
    · have hr := shr8_range hx k
      unfold I64 at hr
      have HS : Hid (shr8 (k + 1) x = shr8 k x / 256) := rfl
      have HL : Hid (leB (k + 1) x = leB k x ++ [shr8 k x % 256]) := leB_snoc k x
      generalize shr8 k x = y at *
      generalize leB k x = l at *
      have h1 := bytesAt_one wr (y % 256) (by omega)
      have hs := hbel.size
      go_wp2_with (at_builtin; refine wpList_ab rfl _ _ rfl w.heap.size _ k l rfl (hown.alloc _) _ 1 1 [y % 256] _ _ rfl h1 (by omega) (by simp; omega) ?_; intro v' w1 hown1 hgr)
      have hgr' : (wr.alloc (.cells #[.int .u8 (y % 256)] 5)).grownBy w1 u7.ownBlock := hgr
      have hb2 := (hbel.alloc hs (.cells #[.int .u8 (y % 256)] 5)).grown hgr' (by simp; omega) (fun g hg => (hown.lt g hg).1)
      clear hgr hgr' h1 hown
      go_roundw
      case rel => exact ⟨k + 1, by omega, by go_num, by rw [HS.out], by rw [HL.out]; exact hown1, hb2⟩
      case measure => simp [intOf]; omega
    · obtain rfl : k = n := by omega
      go_wp2
      go_ret
      exact ⟨_, rfl, hown, hbel⟩
set_option maxHeartbeats 800000 in
theorem l2Put_high (x : Int) (hx : I64 x) (n : Nat) (hn : n ≤ 8) (w : World) :
    Calls Try.prog 40 #[.int .i64 x, .int .i64 n, .bool true] w fun e w' => ∃ v, e = .returned v ∧ w'.ownsRow w.heap.size 5 1 v n (u8s (beB n x)) ∧ Below w.heap.size w w' := by
  have hown0 : (w.alloc (.cells #[] 5)).ownsRow w.heap.size 5 1 (.slice (some ⟨w.heap.size, 0, none⟩) 0 0) 0 [] := World.ownsRow_made w #[] 0 (Nat.le_refl _) (by unfold maxLen; omega) (by simp)
  have hb0 : Below w.heap.size w (w.alloc (.cells #[] 5)) := (Below.refl _ _).alloc (Nat.le_refl _) _
  go_enter Try.func40, Try.ntmps40
  go_wp2_with fail
  go_loopw [0, 7, 8] (fun xv v i wr => ∃ k : Nat, k ≤ n ∧ i = .int .i64 k ∧ xv = .int .i64 (shr8 k x) ∧ wr.ownsRow w.heap.size 5 1 v k (u8s (beB k x)) ∧ Below w.heap.size w wr) (fun _ _ i _ => n - (intOf i).toNat)
  case atStart => exact ⟨0, Nat.zero_le _, rfl, rfl, hown0, hb0⟩
  case round =>
    clear hown0 hb0
    obtain ⟨k, hk, rfl, rfl, hown, hbel⟩ := hrel
    by_cases hlt : k < n
    · have hr := shr8_range hx k
      unfold I64 at hr
      have HS : Hid (shr8 (k + 1) x = shr8 k x / 256) := rfl
      have HL : Hid (beB (k + 1) x = (shr8 k x % 256) :: beB k x) := beB_succ k x
      have hbl := beB_len k x
      have hbb := numB_byte true k x
      simp only [numB, if_true] at hbb
      generalize shr8 k x = y at *
      generalize beB k x = l at *
      have hs := hbel.size
      rw [← hbl] at hown
      obtain ⟨va, vn, vc, hv, hB⟩ := bytesAt_of_own hown hbb
      have hvn : vn = l.length := hB.1.symm
      subst hvn
      have HO : Hid (wr.ownsRow w.heap.size 5 1 u7 l.length (u8s l)) := hown
      clear hown
      subst hv
      have hB1 := hB.below ((Below.refl wr.heap.size wr).alloc (Nat.le_refl _) (.cells #[.int .u8 (y % 256)] 5))
      have hown : (wr.alloc (.cells #[.int .u8 (y % 256)] 5)).ownsRow w.heap.size 5 1 (.slice (some ⟨wr.heap.size, 0, none⟩) 1 1) 1 (u8s [y % 256]) := World.ownsRow_lit wr #[.int .u8 (y % 256)] 1 hs (by unfold maxLen; omega) (by simp)
      have HLL : Hid (l.length = k) := hbl
      clear hB
      go_wp2_with (at_builtin; refine wpList_ab rfl _ _ rfl w.heap.size _ 1 [y % 256] rfl hown _ _ _ l _ _ rfl hB1 (by have := HLL.out; omega) (by simp; omega) ?_; intro v' w1 hown1 hgr)
      have hgr' : (wr.alloc (.cells #[.int .u8 (y % 256)] 5)).grownBy w1 (some wr.heap.size) := hgr
      have hb2 := (hbel.alloc hs (.cells #[.int .u8 (y % 256)] 5)).grown hgr' (by simp; omega) (fun g hg => by simp at hg; omega)
      clear hgr hgr' hown
      go_roundw
      case rel => exact ⟨k + 1, by omega, by go_num, by rw [HS.out], by rw [HL.out]; have := HLL.out; rw [Nat.add_comm, this] at hown1; exact hown1, hb2⟩
      case measure => simp [intOf]; omega
    · obtain rfl : k = n := by omega
      go_wp2
      go_ret
      exact ⟨_, rfl, hown, hbel⟩
theorem l2Put_any (high : Bool) (x : Int) (hx : I64 x) (n : Nat) (hn : n ≤ 8) (w : World) :
    Calls Try.prog 40 #[.int .i64 x, .int .i64 n, .bool high] w fun e w' => ∃ a c, e = .returned (.slice a n c) ∧ w'.ownsRow w.heap.size 5 1 (.slice a n c) n (u8s (numB high n x)) ∧ BytesAt w' w.heap.size w'.heap.size a n c (numB high n x) ∧ Below w.heap.size w w' := by
  have key : Calls Try.prog 40 #[.int .i64 x, .int .i64 n, .bool high] w fun e w' => ∃ v, e = .returned v ∧ w'.ownsRow w.heap.size 5 1 v n (u8s (numB high n x)) ∧ Below w.heap.size w w' := by
    cases high
    · exact l2Put_low x hx n hn w
    · exact l2Put_high x hx n hn w
  refine key.mono ?_
  rintro e w' ⟨v, rfl, h1, h2⟩
  have hl := numB_len high n x
  have h1' : w'.ownsRow w.heap.size 5 1 v (numB high n x).length (u8s (numB high n x)) := by rw [hl]; exact h1
  obtain ⟨a, m, c, hv, hB⟩ := bytesAt_of_own h1' (numB_byte high n x)
  have hm : m = n := hB.1.symm.trans hl
  subst hm
  subst hv
  exact ⟨a, c, rfl, h1, hB, h2⟩

set_option maxHeartbeats 800000 in
theorem l2Zeros_any (v : Value) (m n base : Nat) (bs : List Int) (hb : bs.length = m) (hm : m ≤ n) (hn : n ≤ 1024) (w : World) (hown : w.ownsRow base 5 1 v m (u8s bs)) (hbase : base ≤ w.heap.size) :
    Calls Try.prog 42 #[v, .int .i64 n] w fun e w' => ∃ v', e = .returned v' ∧ w'.ownsRow base 5 1 v' n (u8s (bs ++ List.replicate (n - m) 0)) ∧ Below base w w' := by
  obtain ⟨va, vc, rfl⟩ := own_shape hown
  go_enter Try.func42, Try.ntmps42
  go_wp2_with fail
  go_loopw [0] (fun v wr => ∃ (k : Nat) (a : Option Addr) (c : Nat), m + k ≤ n ∧ v = .slice a (m + k) c ∧ wr.ownsRow base 5 1 (.slice a (m + k) c) (m + k) (u8s (bs ++ List.replicate k 0)) ∧ Below base w wr) (fun v _ => n - (match v with | .slice _ l _ => l | _ => 0))
  case atStart => exact ⟨0, va, vc, by omega, rfl, by simpa using hown, Below.refl _ _⟩
  case round =>
    clear hown
    obtain ⟨k, a, c, hk, rfl, hown, hbel⟩ := hrel
    by_cases hlt : m + k < n
    · have h1 := bytesAt_one wr 0 (by omega)
      have hs := hbel.size
      have HR : Hid (bs ++ List.replicate (k + 1) 0 = (bs ++ List.replicate k 0) ++ [0]) := by show _ = _; rw [List.replicate_succ', List.append_assoc]
      generalize bs ++ List.replicate k 0 = l at *
      go_wp2_with (at_builtin; refine wpList_ab rfl _ _ rfl base _ (m + k) l rfl (hown.alloc _) _ 1 1 [0] _ _ rfl h1 (by omega) (by simp; omega) ?_; intro v' w1 hown1 hgr)
      obtain ⟨a', c', rfl⟩ := own_shape hown1
      have hgr' : (wr.alloc (.cells #[.int .u8 0] 5)).grownBy w1 (Value.slice a (m + k) c).ownBlock := hgr
      have hb2 := (hbel.alloc (by omega) (.cells #[.int .u8 0] 5)).grown hgr' (by simp; omega) (fun g hg => (hown.lt g hg).1)
      clear hgr hgr' h1 hown
      go_roundw
      case rel => exact ⟨k + 1, a', c', by omega, rfl, by rw [HR.out]; exact hown1, hb2⟩
      case measure => simp; omega
    · go_wp2
      go_ret
      have e : k = n - m := by omega
      subst e
      refine ⟨_, rfl, ?_, hbel⟩
      rw [show m + (n - m) = n by omega] at hown ⊢
      exact hown
end Go.Proofs.Ytcmhobbpeaeebaa
namespace Go.Proofs.Ytcmhobbpeaeebaa
open Go.RowKit
set_option linter.unusedVariables false
set_option maxRecDepth 100000

set_option maxHeartbeats 400000 in
theorem l1In_any (x lo hi : Int) (w : World) :
    Calls Try.prog 38 #[.int .i64 x, .int .i64 lo, .int .i64 hi] w fun e w' => e = .returned (.bool (decide (lo ≤ x ∧ x ≤ hi))) ∧ w' = w := by
  by_cases h1 : lo ≤ x
  · go_enter Try.func38, Try.ntmps38
    go_wp2
    go_ret
    exact ⟨by simp [h1], rfl⟩
  · have hd : decide (lo ≤ x) = false := by simp; omega
    go_enter Try.func38, Try.ntmps38
    go_wp2
    go_ret
    exact ⟨by simp, rfl⟩
end Go.Proofs.Ytcmhobbpeaeebaa
namespace Go.Proofs.Ytcmhobbpeaeebaa
open Go.RowKit
set_option linter.unusedVariables false
set_option maxRecDepth 100000

/-- A name, as the document has it. -/
def okBytes (l : List UInt8) : Bool := l.all fun c => decide (97 ≤ c.toNat ∧ c.toNat ≤ 122)
def nameB (s : ByteArray) : Bool := decide (1 ≤ s.size) && decide (s.size ≤ 8) && okBytes s.data.toList
theorem okBytes_snoc (l : List UInt8) (c : UInt8) : okBytes (l ++ [c]) = (okBytes l && decide (97 ≤ c.toNat ∧ c.toNat ≤ 122)) := by simp [okBytes]
theorem okBytes_take_false (l : List UInt8) (k : Nat) (h : okBytes (l.take k) = false) : okBytes l = false := by
  cases hl : okBytes l
  · rfl
  · exfalso
    have : okBytes (l.take k) = true := by
      simp only [okBytes, List.all_eq_true] at hl ⊢
      exact fun x hx => hl x (List.mem_of_mem_take hx)
    rw [this] at h; cases h
theorem take_snocB (s : ByteArray) (k : Nat) (h : k < s.size) : s.data.toList.take (k + 1) = s.data.toList.take k ++ [s[k]] := by
  rw [List.take_succ_eq_append_getElem (by simpa using h)]; rfl
theorem name_long {s : ByteArray} (h : s.size < 1 ∨ 8 < s.size) : nameB s = false := by
  unfold nameB
  rcases h with h | h
  · simp [show ¬ 1 ≤ s.size by omega]
  · simp [show ¬ s.size ≤ 8 by omega]
theorem name_bad {s : ByteArray} {k : Nat} (hk : k < s.size) (h : ((s[k].toNat : Int) < 97) ∨ (122 : Int) < (s[k].toNat : Int)) : nameB s = false := by
  have h2 : okBytes (s.data.toList.take (k + 1)) = false := by
    rw [take_snocB s k hk, okBytes_snoc]
    rw [show decide (97 ≤ s[k].toNat ∧ s[k].toNat ≤ 122) = false by simp; omega]; simp
  unfold nameB
  rw [okBytes_take_false _ _ h2]; simp
theorem name_good {s : ByteArray} (h1 : 1 ≤ s.size) (h2 : s.size ≤ 8) (h : okBytes (s.data.toList.take s.size) = true) : nameB s = true := by
  unfold nameB
  rw [List.take_of_length_le (by simp)] at h
  simp [h1, h2, h]
theorem name_step {s : ByteArray} {k : Nat} (hk : k < s.size) (h : okBytes (s.data.toList.take k) = true) (h1 : (97 : Int) ≤ (s[k].toNat : Int)) (h2 : (s[k].toNat : Int) ≤ 122) : okBytes (s.data.toList.take (k + 1)) = true := by
  rw [take_snocB s k hk, okBytes_snoc, h]
  simp; omega
theorem bytes_ext {a b : ByteArray} (h : a.toList = b.toList) : a = b := by
  rw [ByteArray.toList_eq, ByteArray.toList_eq] at h
  cases a; cases b; simp at h; subst h; rfl
theorem same_no {a b : ByteArray} (h : a ≠ b) : (a.toList == b.toList) = false := by
  cases hb : (a.toList == b.toList)
  · rfl
  · exact absurd (bytes_ext (eq_of_beq hb)) h
theorem same_yes {a b : ByteArray} (h : a = b) : (a.toList == b.toList) = true := by subst h; simp

/-- Where a name stands among files: its number, or -1. -/
def findN (fs : List PF) (nm : ByteArray) : Nat := fs.findIdx (fun f => decide (f.1 = nm))
def findI (fs : List PF) (nm : ByteArray) : Int := if findN fs nm < fs.length then (findN fs nm : Int) else -1
theorem findI_none {fs : List PF} {nm : ByteArray} (h : ∀ j, j < fs.length → (fs.getD j (ByteArray.empty, [])).1 ≠ nm) : findI fs nm = -1 := by
  unfold findI
  rw [if_neg]
  intro hlt
  have h1 := h _ hlt
  unfold findN at h1 hlt
  have h2 := List.findIdx_getElem (w := hlt)
  simp only [List.getD, List.getElem?_eq_getElem hlt, Option.getD_some] at h1
  exact h1 (of_decide_eq_true h2)
theorem findN_at {fs : List PF} {nm : ByteArray} {k : Nat} (hk : k < fs.length) (h : ∀ j, j < k → (fs.getD j (ByteArray.empty, [])).1 ≠ nm) (h2 : (fs.getD k (ByteArray.empty, [])).1 = nm) : findN fs nm = k := by
  unfold findN
  rw [List.findIdx_eq hk]
  refine ⟨by simpa [List.getD, List.getElem?_eq_getElem hk] using h2, fun j hj => ?_⟩
  simpa [List.getD, List.getElem?_eq_getElem (show j < fs.length by omega)] using h j hj
theorem findI_at {fs : List PF} {nm : ByteArray} {k : Nat} (hk : k < fs.length) (h : ∀ j, j < k → (fs.getD j (ByteArray.empty, [])).1 ≠ nm) (h2 : (fs.getD k (ByteArray.empty, [])).1 = nm) : findI fs nm = k := by
  unfold findI
  rw [findN_at hk h h2, if_pos hk]
theorem findI_cases (fs : List PF) (nm : ByteArray) : (findI fs nm = -1 ∧ findN fs nm = fs.length) ∨ (findI fs nm = findN fs nm ∧ findN fs nm < fs.length) := by
  unfold findI
  have : findN fs nm ≤ fs.length := List.findIdx_le_length
  split
  · exact .inr ⟨rfl, by assumption⟩
  · exact .inl ⟨rfl, by omega⟩

/-- How many pages a file of this name has. -/
def lenI (fs : List PF) (nm : ByteArray) : Int := if findN fs nm < fs.length then ((fs.getD (findN fs nm) (ByteArray.empty, [])).2.length : Int) / 128 else 0
/-- The pages of all files. -/
def totalI : List PF → Int
  | [] => 0
  | f :: r => (f.2.length : Int) / 128 + totalI r
theorem totalI_append (xs ys : List PF) : totalI (xs ++ ys) = totalI xs + totalI ys := by
  induction xs with
  | nil => simp [totalI]
  | cons x r ih => simp [totalI, ih]; omega
theorem totalI_bd (xs : List PF) : 0 ≤ totalI xs ∧ totalI xs ≤ wFiles xs := by
  induction xs with
  | nil => simp [totalI, wFiles]
  | cons x r ih => simp [totalI, wFiles, wFile]; omega
theorem totalI_take_le (xs : List PF) (k : Nat) : totalI (xs.take k) ≤ totalI xs := by
  have h := totalI_append (xs.take k) (xs.drop k)
  rw [List.take_append_drop] at h
  have := (totalI_bd (xs.drop k)).1
  omega
theorem wFiles_take_le (xs : List PF) (k : Nat) : wFiles (xs.take k) ≤ wFiles xs := by
  have h := wFiles_append (xs.take k) (xs.drop k)
  rw [List.take_append_drop] at h
  have := wFiles_nonneg (xs.drop k)
  omega
theorem wFiles_get (xs : List PF) (k : Nat) (hk : k < xs.length) : ((xs.getD k (ByteArray.empty, [])).1.size : Int) + ((xs.getD k (ByteArray.empty, [])).2.length : Int) ≤ wFiles xs := by
  induction xs generalizing k with
  | nil => simp at hk
  | cons x r ih =>
    cases k with
    | zero => have := wFiles_nonneg r; simp [wFiles, wFile]; omega
    | succ k =>
      have h1 := ih k (by simpa using hk)
      simp only [wFiles, wFile]
      simp only [List.getD_cons_succ]
      omega
theorem wPends_get (xs : List PP) (k : Nat) (hk : k < xs.length) : ((xs.getD k (ByteArray.empty, 0, [])).1.size : Int) + ((xs.getD k (ByteArray.empty, 0, [])).2.2.length : Int) ≤ wPends xs := by
  induction xs generalizing k with
  | nil => simp at hk
  | cons x r ih =>
    cases k with
    | zero => have := wPends_nonneg r; simp [wPends, wPend]; omega
    | succ k =>
      have h1 := ih k (by simpa using hk)
      simp only [wPends, wPend]
      simp only [List.getD_cons_succ]
      omega
/-- 'a >= b' on names. -/
def geB (a b : ByteArray) : Bool := !Op.bytesLess a.toList b.toList
/-- One file of a list is as it should be. -/
def fileOk (fs : List PF) (i : Nat) : Bool :=
  nameB (fs.getD i (ByteArray.empty, [])).1 && !((fs.getD i (ByteArray.empty, [])).2.length == 0) && ((fs.getD i (ByteArray.empty, [])).2.length % 128 == 0) && !(decide (0 < i) && geB (fs.getD (i - 1) (ByteArray.empty, [])).1 (fs.getD i (ByteArray.empty, [])).1)
def filesOk (fs : List PF) : Bool := decide (∀ i, i < fs.length → fileOk fs i = true)
theorem filesOk_no {fs : List PF} {i : Nat} (hi : i < fs.length) (h : fileOk fs i = false) : filesOk fs = false := by
  unfold filesOk
  rw [decide_eq_false_iff_not]
  intro h2
  rw [h2 i hi] at h
  cases h
theorem filesOk_yes {fs : List PF} (h : ∀ i, i < fs.length → fileOk fs i = true) : filesOk fs = true := by
  unfold filesOk
  exact decide_eq_true h
end Go.Proofs.Ytcmhobbpeaeebaa
