import Derived.Test.YtcmhobbpeaeebaaGAA
import Derived.ArgAppend
import Derived.Test.YtcmhobbpeaeebaaChecked
import Derived.WalkKit
import Derived.ProofKit
import Derived.WalkLawsBesides
namespace Go.Proofs.Ytcmhobbpeaeebaa
open Go.RowKit
set_option linter.unusedVariables false
set_option maxRecDepth 100000

theorem own_lowerD {w : World} {b b' e size : Nat} {v : Value} {n : Nat} {xs : List Value} (h : w.ownsRow b e size v n xs) (hb : b' ≤ b) : w.ownsRow b' e size v n xs := by
  refine ⟨h.1, ?_⟩
  rcases h.2 with hn | ⟨g, cap, cur, e1, e2, e3⟩
  · exact .inl hn
  · exact .inr ⟨g, cap, cur, e1, Nat.le_trans hb e2, e3⟩

theorem grown_weakD {w w' : World} {row : Option Nat} (h : w.grownBy w' none) : w.grownBy w' row :=
  ⟨h.os, h.tape, h.output, h.size, fun k hk _ => h.block k hk (by simp)⟩

/-- 'append' to a slice of one's own, and where the answer lies: where it lay, or in a new block. -/
theorem run_append_ownD {P : Program} (w : World) (base : Nat) (t ty e : TypeId) (i : TypeInfo) (z : Value) (size bytes : Nat) (ht : P.underlying t = some (.slice e)) (hi : P.info? e = some i) (hz : i.zero = some z)
    (hsize : i.size = size) (hby : i.bytes = bytes) (hzs : z.cells.size = size) (hsz : 0 < size)
    (v : Value) (n : Nat) (xs : List Value) (hown : w.ownsRow base e size v n xs)
    (a : Addr) (m c : Nat) (news : List Value) (hl : news.length = m * size) (hnews : ∀ j u, news[j]? = some u → w.cell? (a.add j) = some u) (h1 : ∀ u ∈ news, u.oneCell' = true)
    (h63 : n + m ≤ maxLen) (hbytes : (n + m) * bytes ≤ 140737488355328) (hbase : base ≤ w.heap.size) :
    ∃ v' w', (Builtin.append_ #[t, t] ty #[v, .slice (some a) m c]).run P w = .ok v' w' ∧ w'.ownsRow base e size v' (n + m) (xs ++ news) ∧ w.grownBy w' v.ownBlock ∧
      (v'.ownBlock = v.ownBlock ∨ ∀ g, v'.ownBlock = some g → w.heap.size ≤ g) := by
  rcases hown.2 with ⟨rfl, rfl⟩ | ⟨g, cap, cur, rfl, hbg, hg, hnc, hcm, hcs, htake⟩
  · have hx : xs = [] := List.eq_nil_of_length_eq_zero (by simpa using hown.1)
    subst hx
    obtain ⟨v', w', hr, ho, hgr, _⟩ := run_append_own (P := P) w w.heap.size t ty e i z size bytes ht hi hz hsize hby hzs hsz _ 0 [] (World.ownsRow_nil w _ e size) a m c news hl hnews h1 h63 hbytes (Nat.le_refl _)
    exact ⟨v', w', hr, own_lowerD ho hbase, hgr, .inr fun k hk => (ho.lt k hk).1⟩
  · by_cases hroom : n + m ≤ cap
    · obtain ⟨v', w', hr, ho, hgr, _⟩ := run_append_own (P := P) w base t ty e i z size bytes ht hi hz hsize hby hzs hsz _ n xs hown a m c news hl hnews h1 h63 hbytes hbase
      subst hsize
      have hfit : n * i.size + news.length ≤ cur.size := by rw [hl, hcs, ← Nat.add_mul]; exact Nat.mul_le_mul_right _ hroom
      have hr2 := run_append_room (P := P) w t ty e i ht hi g n cap cur hg a m c news hl hnews h1 hroom hfit
      rw [hr] at hr2
      injection hr2 with e1 e2
      exact ⟨v', w', hr, ho, hgr, .inl (by rw [e1]; rfl)⟩
    · have holds : ∀ j u, xs[j]? = some u → w.cell? ((⟨g, 0, none⟩ : Addr).add j) = some u := hown.cells (g := g) rfl
      obtain ⟨v', w', hr, ho, hgr⟩ := run_append_arg_grows (P := P) w t ty e i z size bytes ht hi hz hsize hby hzs hsz ⟨g, 0, none⟩ n cap xs hown.1 holds a m c news hl hnews (by omega) h63 hbytes
      exact ⟨v', w', hr, own_lowerD ho hbase, grown_weakD hgr, .inr fun k hk => (ho.lt k hk).1⟩

theorem wpList_append_ownD {P : Program} (w : World) {ops : Array Oper} {rest : List Oper} {o : Oper} {a : Act} {Q : Exit → Act → World → Prop} (hgd : o.guard = none) (s x : Operand) (t : TypeId)
    (ho : o.op = .call { callee := .builtin .append, args := #[s, x], argTypes := #[t, t] })
    (base : Nat) (e : TypeId) (i : TypeInfo) (z : Value) (size bytes : Nat) (ht : P.underlying t = some (.slice e)) (hi : P.info? e = some i) (hz : i.zero = some z)
    (hsize : i.size = size) (hby : i.bytes = bytes) (hzs : z.cells.size = size) (hsz : 0 < size)
    (v : Value) (n : Nat) (xs : List Value) (hs : a.eval s = v) (hown : w.ownsRow base e size v n xs)
    (ad : Addr) (m c : Nat) (news : List Value) (hx : a.eval x = .slice (some ad) m c) (hl : news.length = m * size) (hnews : ∀ j u, news[j]? = some u → w.cell? (ad.add j) = some u) (h1 : ∀ u ∈ news, u.oneCell' = true)
    (h63 : n + m ≤ maxLen) (hbytes : (n + m) * bytes ≤ 140737488355328) (hbase : base ≤ w.heap.size)
    (h : ∀ v' w', w'.ownsRow base e size v' (n + m) (xs ++ news) → w.grownBy w' v.ownBlock → (v'.ownBlock = v.ownBlock ∨ ∀ g, v'.ownBlock = some g → w.heap.size ≤ g) → wpList P ops Q rest (a.put o.dst v') w') : wpList P ops Q (o :: rest) a w := by
  refine wpList_plain hgd fun _ hK => ?_
  obtain ⟨v', w', hr, h2, h3, h4⟩ := run_append_ownD (P := P) w base t o.type e i z size bytes ht hi hz hsize hby hzs hsz v n xs hown ad m c news hl hnews h1 h63 hbytes hbase
  unfold Oper.wp execOp
  simp only [ho, resolve, invoke, builtin, Sem.run_bind, Sem.run_pure, Result.andThen_ok, List.map_toArray, List.map_cons, List.map_nil, hs, hx, hr]
  exact hK _ _ (h v' w' h2 h3 h4)

end Go.Proofs.Ytcmhobbpeaeebaa
namespace Go.Proofs.Ytcmhobbpeaeebaa
open Go.RowKit
set_option linter.unusedVariables false
set_option maxRecDepth 100000

set_option maxHeartbeats 800000 in
theorem l1Many_any (s : ByteArray) (hs : s.size ≤ 16) (n : Nat) (hn : n ≤ 1000) (w : World) :
    Calls Try.prog 77 #[.string s, .int .i64 n] w fun e w' => ∃ t : ByteArray, e = .returned (.string t) ∧ t.size = s.size * n ∧ Below w.heap.size w w' := by
  go_enter Try.func77, Try.ntmps77
  go_wp2_with fail
  have hb0 : Below w.heap.size w (w.alloc (.cells #[] 5)) := (Below.refl _ _).alloc (Nat.le_refl _) _
  have hw0 : (w.alloc (.cells #[] 5)).ownsRow w.heap.size 5 1 (.slice (some ⟨w.heap.size, 0, none⟩) 0 0) 0 (u8s []) := by
    have := World.ownsRow_made w #[] (base := w.heap.size) (e := 5) (size := 1) 0 (by simp) (by unfold maxLen; omega) (by simp)
    simpa [u8s] using this
  go_loopw [5, 6] (fun v i wr => ∃ (k : Nat) (a : Option Addr) (c : Nat) (l : List Int), k ≤ n ∧ i = .int .i64 k ∧ l.length = s.size * k ∧ (∀ x ∈ l, 0 ≤ x ∧ x ≤ 255) ∧ v = .slice a (s.size * k) c ∧ wr.ownsRow w.heap.size 5 1 (.slice a (s.size * k) c) (s.size * k) (u8s l) ∧ Below w.heap.size w wr) (fun _ i _ => n - (intOf i).toNat)
  case atStart => exact ⟨0, some ⟨w.heap.size, 0, none⟩, 0, [], Nat.zero_le _, rfl, by simp, (by intro x hx; cases hx), rfl, hw0, hb0⟩
  case round =>
    clear hw0 hb0
    obtain ⟨k, a, c, l, hk, rfl, hl, hlb, rfl, hown, hbel⟩ := hrel
    have hm : s.size * k ≤ 16 * 1000 := Nat.mul_le_mul hs (by omega)
    have HL : Hid (l.length = s.size * k) := hl
    clear hl
    generalize hmk : s.size * k = m at hm HL hown ⊢
    have HM : Hid (s.size * k = m) := hmk
    clear hmk
    by_cases hlt : k < n
    · have hsz := hbel.size
      go_wp2_with (at_builtin; refine wpList_as rfl _ _ rfl w.heap.size _ m l rfl hown s rfl (by omega) (by omega) ?_; intro v' w1 hown1 hgr)
      obtain ⟨a', c', rfl⟩ := own_shape hown1
      have hb2 := hbel.grown hgr (by omega) (fun g hg => (hown.lt g hg).1)
      have hE : s.size * (k + 1) = m + s.size := by rw [Nat.mul_succ, HM.out]
      have HE : Hid (s.size * (k + 1) = m + s.size) := hE
      have HL2 : Hid ((l ++ strB s).length = s.size * (k + 1)) := by show _ = _; rw [List.length_append, strB_len, HL.out, hE]
      have HB2 : Hid (∀ x ∈ l ++ strB s, 0 ≤ x ∧ x ≤ 255) := by intro x hx; rcases List.mem_append.1 hx with h | h; exact hlb x h; exact strB_byte s x h
      clear hgr hown hE
      go_roundw
      case rel => exact ⟨k + 1, a', c', l ++ strB s, by omega, by go_num, HL2.out, HB2.out, by rw [HE.out], by rw [HE.out]; exact hown1, hb2⟩
      case measure => simp [intOf]; omega
    · have hkn : k = n := by omega
      subst hkn
      have hlen := HL.out
      have hB : BytesAt wr w.heap.size wr.heap.size a m c l := by
        have := bytesAt_of_own (v := .slice a m c) (bs := l) (by rw [hlen]; exact hown) hlb
        obtain ⟨a2, n2, c2, e, hB⟩ := this
        cases e
        exact hB
      have sc := str_conv hB
      clear hown HL
      go_wp2
      go_ret
      exact ⟨_, rfl, by rw [toB_size, hlen, HM.out], hbel⟩
theorem DCur.frg {w w' : World} {C A B : Nat} {S : Nat → Prop} (h : DCur w C A B) (hf : Fr S w w') (hS : ∀ g, S g → C < g) : DCur w' C A B := by
  obtain ⟨hBC, a, n, c, bs, i, hh, hbox, hi, hby⟩ := h
  have hl := (Array.getElem?_eq_some_iff.1 hbox).1
  exact ⟨hBC, a, n, c, bs, i, hh, (hf.block C hl (fun e => by have := hS _ e; omega)).trans hbox, hi, hby.keep (fun k k1 k2 => hf.block k (by omega) (fun e => by have := hS _ e; omega))⟩
theorem Fr.up2 {S T : Nat → Prop} {a b c : World} (h : Fr S a b) (k : Fr T b c) (hT : ∀ g, T g → a.heap.size ≤ g) : Fr S a c :=
  ⟨k.1.trans h.1, k.2.trans h.2, k.3.trans h.3, Nat.le_trans h.size k.size, fun g hg hS => (k.block g (Nat.lt_of_lt_of_le hg h.size) (fun e => by have := hT g e; omega)).trans (h.block g hg hS)⟩
end Go.Proofs.Ytcmhobbpeaeebaa
namespace Go.Proofs.Ytcmhobbpeaeebaa
open Go.RowKit
set_option linter.unusedVariables false
set_option maxRecDepth 100000

/-- A number's bytes, lowest first; highest first. -/
def leB : Nat → Int → List Int
  | 0, _ => []
  | n + 1, x => x % 256 :: leB n (x / 256)
def beB (n : Nat) (x : Int) : List Int := (leB n x).reverse
def numB (high : Bool) (n : Nat) (x : Int) : List Int := if high then beB n x else leB n x
def shr8 : Nat → Int → Int
  | 0, x => x
  | n + 1, x => shr8 n x / 256
theorem leB_len : ∀ n x, (leB n x).length = n
  | 0, _ => rfl
  | n + 1, x => by simp [leB, leB_len n]
theorem leB_byte : ∀ n x, ∀ y ∈ leB n x, 0 ≤ y ∧ y ≤ 255
  | 0, _, y, h => by cases h
  | n + 1, x, y, h => by
    rcases List.mem_cons.1 h with rfl | h
    · omega
    · exact leB_byte n _ y h
theorem shr8_in : ∀ n x, shr8 n (x / 256) = shr8 n x / 256
  | 0, _ => rfl
  | n + 1, x => by simp [shr8, shr8_in n]
theorem leB_snoc : ∀ n x, leB (n + 1) x = leB n x ++ [shr8 n x % 256]
  | 0, x => by simp [leB, shr8]
  | n + 1, x => by
    rw [leB, leB_snoc n (x / 256), leB, List.cons_append, shr8_in]
    rfl
theorem beB_len (n : Nat) (x : Int) : (beB n x).length = n := by simp [beB, leB_len]
theorem beB_succ (n : Nat) (x : Int) : beB (n + 1) x = (shr8 n x % 256) :: beB n x := by simp [beB, leB_snoc]
theorem numB_len (b : Bool) (n : Nat) (x : Int) : (numB b n x).length = n := by cases b <;> simp [numB, beB_len, leB_len]
theorem numB_byte (b : Bool) (n : Nat) (x : Int) : ∀ y ∈ numB b n x, 0 ≤ y ∧ y ≤ 255 := by
  cases b
  · exact leB_byte n x
  · intro y hy
    exact leB_byte n x y (by simpa [numB, beB] using hy)
theorem shr8_range {x : Int} (hx : I64 x) : ∀ n, I64 (shr8 n x)
  | 0 => hx
  | n + 1 => by
    have := shr8_range hx n
    unfold I64 at this ⊢
    simp only [shr8]
    omega

/-- One byte in a slice of its own. -/
theorem bytesAt_one (w : World) (x : Int) (hx : 0 ≤ x ∧ x ≤ 255) : BytesAt (w.alloc (.cells #[.int .u8 x] 5)) w.heap.size (w.heap.size + 1) (some ⟨w.heap.size, 0, none⟩) 1 1 [x] := by
  refine ⟨rfl, Nat.le_refl _, by unfold maxLen; omega, fun y hy => by simp at hy; omega, fun _ => ⟨w.heap.size, 0, rfl, ⟨Nat.le_refl _, Nat.lt_succ_self _⟩, fun i hi => ?_⟩, fun h => by cases h⟩
  obtain rfl : i = 0 := by omega
  simp

set_option maxHeartbeats 800000 in
theorem l2Put_low (x : Int) (hx : I64 x) (n : Nat) (hn : n ≤ 8) (w : World) :
    Calls Try.prog 40 #[.int .i64 x, .int .i64 n, .bool false] w fun e w' => ∃ v, e = .returned v ∧ w'.ownsRow w.heap.size 5 1 v n (u8s (leB n x)) ∧ Below w.heap.size w w' := by
  have hown0 : (w.alloc (.cells #[] 5)).ownsRow w.heap.size 5 1 (.slice (some ⟨w.heap.size, 0, none⟩) 0 0) 0 [] := World.ownsRow_made w #[] 0 (Nat.le_refl _) (by unfold maxLen; omega) (by simp)
  have hb0 : Below w.heap.size w (w.alloc (.cells #[] 5)) := (Below.refl _ _).alloc (Nat.le_refl _) _
  go_enter Try.func40, Try.ntmps40
  go_wp2_with fail
  go_loopw [0, 7, 8] (fun xv v i wr => ∃ k : Nat, k ≤ n ∧ i = .int .i64 k ∧ xv = .int .i64 (shr8 k x) ∧ wr.ownsRow w.heap.size 5 1 v k (u8s (leB k x)) ∧ Below w.heap.size w wr) (fun _ _ i _ => n - (intOf i).toNat)
  case atStart => exact ⟨0, Nat.zero_le _, rfl, rfl, hown0, hb0⟩
  case round =>
    clear hown0 hb0
    obtain ⟨k, hk, rfl, rfl, hown, hbel⟩ := hrel
    by_cases hlt : k < n
    · have hr := shr8_range hx k
      unfold I64 at hr
      have HS : Hid (shr8 (k + 1) x = shr8 k x / 256) := rfl
      have HL : Hid (leB (k + 1) x = leB k x ++ [shr8 k x % 256]) := leB_snoc k x
      generalize shr8 k x = y at *
      generalize leB k x = l at *
      have h1 := bytesAt_one wr (y % 256) (by omega)
      have hs := hbel.size
      go_wp2_with (at_builtin; refine wpList_ab rfl _ _ rfl w.heap.size _ k l rfl (hown.alloc _) _ 1 1 [y % 256] _ _ rfl h1 (by omega) (by simp; omega) ?_; intro v' w1 hown1 hgr)
      have hgr' : (wr.alloc (.cells #[.int .u8 (y % 256)] 5)).grownBy w1 u7.ownBlock := hgr
      have hb2 := (hbel.alloc hs (.cells #[.int .u8 (y % 256)] 5)).grown hgr' (by simp; omega) (fun g hg => (hown.lt g hg).1)
      clear hgr hgr' h1 hown
      go_roundw
      case rel => exact ⟨k + 1, by omega, by go_num, by rw [HS.out], by rw [HL.out]; exact hown1, hb2⟩
      case measure => simp [intOf]; omega
    · obtain rfl : k = n := by omega
      go_wp2
      go_ret
      exact ⟨_, rfl, hown, hbel⟩
set_option maxHeartbeats 800000 in
theorem l2Put_high (x : Int) (hx : I64 x) (n : Nat) (hn : n ≤ 8) (w : World) :
    Calls Try.prog 40 #[.int .i64 x, .int .i64 n, .bool true] w fun e w' => ∃ v, e = .returned v ∧ w'.ownsRow w.heap.size 5 1 v n (u8s (beB n x)) ∧ Below w.heap.size w w' := by
  have hown0 : (w.alloc (.cells #[] 5)).ownsRow w.heap.size 5 1 (.slice (some ⟨w.heap.size, 0, none⟩) 0 0) 0 [] := World.ownsRow_made w #[] 0 (Nat.le_refl _) (by unfold maxLen; omega) (by simp)
  have hb0 : Below w.heap.size w (w.alloc (.cells #[] 5)) := (Below.refl _ _).alloc (Nat.le_refl _) _
  go_enter Try.func40, Try.ntmps40
  go_wp2_with fail
  go_loopw [0, 7, 8] (fun xv v i wr => ∃ k : Nat, k ≤ n ∧ i = .int .i64 k ∧ xv = .int .i64 (shr8 k x) ∧ wr.ownsRow w.heap.size 5 1 v k (u8s (beB k x)) ∧ Below w.heap.size w wr) (fun _ _ i _ => n - (intOf i).toNat)
  case atStart => exact ⟨0, Nat.zero_le _, rfl, rfl, hown0, hb0⟩
  case round =>
    clear hown0 hb0
    obtain ⟨k, hk, rfl, rfl, hown, hbel⟩ := hrel
    by_cases hlt : k < n
    · have hr := shr8_range hx k
      unfold I64 at hr
      have HS : Hid (shr8 (k + 1) x = shr8 k x / 256) := rfl
      have HL : Hid (beB (k + 1) x = (shr8 k x % 256) :: beB k x) := beB_succ k x
      have hbl := beB_len k x
      have hbb := numB_byte true k x
      simp only [numB, if_true] at hbb
      generalize shr8 k x = y at *
      generalize beB k x = l at *
      have hs := hbel.size
      rw [← hbl] at hown
      obtain ⟨va, vn, vc, hv, hB⟩ := bytesAt_of_own hown hbb
      have hvn : vn = l.length := hB.1.symm
      subst hvn
      have HO : Hid (wr.ownsRow w.heap.size 5 1 u7 l.length (u8s l)) := hown
      clear hown
      subst hv
      have hB1 := hB.below ((Below.refl wr.heap.size wr).alloc (Nat.le_refl _) (.cells #[.int .u8 (y % 256)] 5))
      have hown : (wr.alloc (.cells #[.int .u8 (y % 256)] 5)).ownsRow w.heap.size 5 1 (.slice (some ⟨wr.heap.size, 0, none⟩) 1 1) 1 (u8s [y % 256]) := World.ownsRow_lit wr #[.int .u8 (y % 256)] 1 hs (by unfold maxLen; omega) (by simp)
      have HLL : Hid (l.length = k) := hbl
      clear hB
      go_wp2_with (at_builtin; refine wpList_ab rfl _ _ rfl w.heap.size _ 1 [y % 256] rfl hown _ _ _ l _ _ rfl hB1 (by have := HLL.out; omega) (by simp; omega) ?_; intro v' w1 hown1 hgr)
      have hgr' : (wr.alloc (.cells #[.int .u8 (y % 256)] 5)).grownBy w1 (some wr.heap.size) := hgr
      have hb2 := (hbel.alloc hs (.cells #[.int .u8 (y % 256)] 5)).grown hgr' (by simp; omega) (fun g hg => by simp at hg; omega)
      clear hgr hgr' hown
      go_roundw
      case rel => exact ⟨k + 1, by omega, by go_num, by rw [HS.out], by rw [HL.out]; have := HLL.out; rw [Nat.add_comm, this] at hown1; exact hown1, hb2⟩
      case measure => simp [intOf]; omega
    · obtain rfl : k = n := by omega
      go_wp2
      go_ret
      exact ⟨_, rfl, hown, hbel⟩
theorem l2Put_any (high : Bool) (x : Int) (hx : I64 x) (n : Nat) (hn : n ≤ 8) (w : World) :
    Calls Try.prog 40 #[.int .i64 x, .int .i64 n, .bool high] w fun e w' => ∃ a c, e = .returned (.slice a n c) ∧ w'.ownsRow w.heap.size 5 1 (.slice a n c) n (u8s (numB high n x)) ∧ BytesAt w' w.heap.size w'.heap.size a n c (numB high n x) ∧ Below w.heap.size w w' := by
  have key : Calls Try.prog 40 #[.int .i64 x, .int .i64 n, .bool high] w fun e w' => ∃ v, e = .returned v ∧ w'.ownsRow w.heap.size 5 1 v n (u8s (numB high n x)) ∧ Below w.heap.size w w' := by
    cases high
    · exact l2Put_low x hx n hn w
    · exact l2Put_high x hx n hn w
  refine key.mono ?_
  rintro e w' ⟨v, rfl, h1, h2⟩
  have hl := numB_len high n x
  have h1' : w'.ownsRow w.heap.size 5 1 v (numB high n x).length (u8s (numB high n x)) := by rw [hl]; exact h1
  obtain ⟨a, m, c, hv, hB⟩ := bytesAt_of_own h1' (numB_byte high n x)
  have hm : m = n := hB.1.symm.trans hl
  subst hm
  subst hv
  exact ⟨a, c, rfl, h1, hB, h2⟩

set_option maxHeartbeats 800000 in
theorem l2Zeros_any (v : Value) (m n base : Nat) (bs : List Int) (hb : bs.length = m) (hm : m ≤ n) (hn : n ≤ 1024) (w : World) (hown : w.ownsRow base 5 1 v m (u8s bs)) (hbase : base ≤ w.heap.size) :
    Calls Try.prog 42 #[v, .int .i64 n] w fun e w' => ∃ v', e = .returned v' ∧ w'.ownsRow base 5 1 v' n (u8s (bs ++ List.replicate (n - m) 0)) ∧ Below base w w' := by
  obtain ⟨va, vc, rfl⟩ := own_shape hown
  go_enter Try.func42, Try.ntmps42
  go_wp2_with fail
  go_loopw [0] (fun v wr => ∃ (k : Nat) (a : Option Addr) (c : Nat), m + k ≤ n ∧ v = .slice a (m + k) c ∧ wr.ownsRow base 5 1 (.slice a (m + k) c) (m + k) (u8s (bs ++ List.replicate k 0)) ∧ Below base w wr) (fun v _ => n - (match v with | .slice _ l _ => l | _ => 0))
  case atStart => exact ⟨0, va, vc, by omega, rfl, by simpa using hown, Below.refl _ _⟩
  case round =>
    clear hown
    obtain ⟨k, a, c, hk, rfl, hown, hbel⟩ := hrel
    by_cases hlt : m + k < n
    · have h1 := bytesAt_one wr 0 (by omega)
      have hs := hbel.size
      have HR : Hid (bs ++ List.replicate (k + 1) 0 = (bs ++ List.replicate k 0) ++ [0]) := by show _ = _; rw [List.replicate_succ', List.append_assoc]
      generalize bs ++ List.replicate k 0 = l at *
      go_wp2_with (at_builtin; refine wpList_ab rfl _ _ rfl base _ (m + k) l rfl (hown.alloc _) _ 1 1 [0] _ _ rfl h1 (by omega) (by simp; omega) ?_; intro v' w1 hown1 hgr)
      obtain ⟨a', c', rfl⟩ := own_shape hown1
      have hgr' : (wr.alloc (.cells #[.int .u8 0] 5)).grownBy w1 (Value.slice a (m + k) c).ownBlock := hgr
      have hb2 := (hbel.alloc (by omega) (.cells #[.int .u8 0] 5)).grown hgr' (by simp; omega) (fun g hg => (hown.lt g hg).1)
      clear hgr hgr' h1 hown
      go_roundw
      case rel => exact ⟨k + 1, a', c', by omega, rfl, by rw [HR.out]; exact hown1, hb2⟩
      case measure => simp; omega
    · go_wp2
      go_ret
      have e : k = n - m := by omega
      subst e
      refine ⟨_, rfl, ?_, hbel⟩
      rw [show m + (n - m) = n by omega] at hown ⊢
      exact hown
end Go.Proofs.Ytcmhobbpeaeebaa
namespace Go.Proofs.Ytcmhobbpeaeebaa
open Go.RowKit
set_option linter.unusedVariables false
set_option maxRecDepth 100000

set_option maxHeartbeats 400000 in
theorem l1In_any (x lo hi : Int) (w : World) :
    Calls Try.prog 38 #[.int .i64 x, .int .i64 lo, .int .i64 hi] w fun e w' => e = .returned (.bool (decide (lo ≤ x ∧ x ≤ hi))) ∧ w' = w := by
  by_cases h1 : lo ≤ x
  · go_enter Try.func38, Try.ntmps38
    go_wp2
    go_ret
    exact ⟨by simp [h1], rfl⟩
  · have hd : decide (lo ≤ x) = false := by simp; omega
    go_enter Try.func38, Try.ntmps38
    go_wp2
    go_ret
    exact ⟨by simp, rfl⟩
end Go.Proofs.Ytcmhobbpeaeebaa
namespace Go.Proofs.Ytcmhobbpeaeebaa
open Go.RowKit
set_option linter.unusedVariables false
set_option maxRecDepth 100000

/-- A name, as the document has it. -/
def okBytes (l : List UInt8) : Bool := l.all fun c => decide (97 ≤ c.toNat ∧ c.toNat ≤ 122)
def nameB (s : ByteArray) : Bool := decide (1 ≤ s.size) && decide (s.size ≤ 8) && okBytes s.data.toList
theorem okBytes_snoc (l : List UInt8) (c : UInt8) : okBytes (l ++ [c]) = (okBytes l && decide (97 ≤ c.toNat ∧ c.toNat ≤ 122)) := by simp [okBytes]
theorem okBytes_take_false (l : List UInt8) (k : Nat) (h : okBytes (l.take k) = false) : okBytes l = false := by
  cases hl : okBytes l
  · rfl
  · exfalso
    have : okBytes (l.take k) = true := by
      simp only [okBytes, List.all_eq_true] at hl ⊢
      exact fun x hx => hl x (List.mem_of_mem_take hx)
    rw [this] at h; cases h
theorem take_snocB (s : ByteArray) (k : Nat) (h : k < s.size) : s.data.toList.take (k + 1) = s.data.toList.take k ++ [s[k]] := by
  rw [List.take_succ_eq_append_getElem (by simpa using h)]; rfl
theorem name_long {s : ByteArray} (h : s.size < 1 ∨ 8 < s.size) : nameB s = false := by
  unfold nameB
  rcases h with h | h
  · simp [show ¬ 1 ≤ s.size by omega]
  · simp [show ¬ s.size ≤ 8 by omega]
theorem name_bad {s : ByteArray} {k : Nat} (hk : k < s.size) (h : ((s[k].toNat : Int) < 97) ∨ (122 : Int) < (s[k].toNat : Int)) : nameB s = false := by
  have h2 : okBytes (s.data.toList.take (k + 1)) = false := by
    rw [take_snocB s k hk, okBytes_snoc]
    rw [show decide (97 ≤ s[k].toNat ∧ s[k].toNat ≤ 122) = false by simp; omega]; simp
  unfold nameB
  rw [okBytes_take_false _ _ h2]; simp
theorem name_good {s : ByteArray} (h1 : 1 ≤ s.size) (h2 : s.size ≤ 8) (h : okBytes (s.data.toList.take s.size) = true) : nameB s = true := by
  unfold nameB
  rw [List.take_of_length_le (by simp)] at h
  simp [h1, h2, h]
theorem name_step {s : ByteArray} {k : Nat} (hk : k < s.size) (h : okBytes (s.data.toList.take k) = true) (h1 : (97 : Int) ≤ (s[k].toNat : Int)) (h2 : (s[k].toNat : Int) ≤ 122) : okBytes (s.data.toList.take (k + 1)) = true := by
  rw [take_snocB s k hk, okBytes_snoc, h]
  simp; omega
theorem bytes_ext {a b : ByteArray} (h : a.toList = b.toList) : a = b := by
  rw [ByteArray.toList_eq, ByteArray.toList_eq] at h
  cases a; cases b; simp at h; subst h; rfl
theorem same_no {a b : ByteArray} (h : a ≠ b) : (a.toList == b.toList) = false := by
  cases hb : (a.toList == b.toList)
  · rfl
  · exact absurd (bytes_ext (eq_of_beq hb)) h
theorem same_yes {a b : ByteArray} (h : a = b) : (a.toList == b.toList) = true := by subst h; simp

/-- Where a name stands among files: its number, or -1. -/
def findN (fs : List PF) (nm : ByteArray) : Nat := fs.findIdx (fun f => decide (f.1 = nm))
def findI (fs : List PF) (nm : ByteArray) : Int := if findN fs nm < fs.length then (findN fs nm : Int) else -1
theorem findI_none {fs : List PF} {nm : ByteArray} (h : ∀ j, j < fs.length → (fs.getD j (ByteArray.empty, [])).1 ≠ nm) : findI fs nm = -1 := by
  unfold findI
  rw [if_neg]
  intro hlt
  have h1 := h _ hlt
  unfold findN at h1 hlt
  have h2 := List.findIdx_getElem (w := hlt)
  simp only [List.getD, List.getElem?_eq_getElem hlt, Option.getD_some] at h1
  exact h1 (of_decide_eq_true h2)
theorem findN_at {fs : List PF} {nm : ByteArray} {k : Nat} (hk : k < fs.length) (h : ∀ j, j < k → (fs.getD j (ByteArray.empty, [])).1 ≠ nm) (h2 : (fs.getD k (ByteArray.empty, [])).1 = nm) : findN fs nm = k := by
  unfold findN
  rw [List.findIdx_eq hk]
  refine ⟨by simpa [List.getD, List.getElem?_eq_getElem hk] using h2, fun j hj => ?_⟩
  simpa [List.getD, List.getElem?_eq_getElem (show j < fs.length by omega)] using h j hj
theorem findI_at {fs : List PF} {nm : ByteArray} {k : Nat} (hk : k < fs.length) (h : ∀ j, j < k → (fs.getD j (ByteArray.empty, [])).1 ≠ nm) (h2 : (fs.getD k (ByteArray.empty, [])).1 = nm) : findI fs nm = k := by
  unfold findI
  rw [findN_at hk h h2, if_pos hk]
theorem findI_cases (fs : List PF) (nm : ByteArray) : (findI fs nm = -1 ∧ findN fs nm = fs.length) ∨ (findI fs nm = findN fs nm ∧ findN fs nm < fs.length) := by
  unfold findI
  have : findN fs nm ≤ fs.length := List.findIdx_le_length
  split
  · exact .inr ⟨rfl, by assumption⟩
  · exact .inl ⟨rfl, by omega⟩

/-- How many pages a file of this name has. -/
def lenI (fs : List PF) (nm : ByteArray) : Int := if findN fs nm < fs.length then ((fs.getD (findN fs nm) (ByteArray.empty, [])).2.length : Int) / 128 else 0
/-- The pages of all files. -/
def totalI : List PF → Int
  | [] => 0
  | f :: r => (f.2.length : Int) / 128 + totalI r
theorem totalI_append (xs ys : List PF) : totalI (xs ++ ys) = totalI xs + totalI ys := by
  induction xs with
  | nil => simp [totalI]
  | cons x r ih => simp [totalI, ih]; omega
theorem totalI_bd (xs : List PF) : 0 ≤ totalI xs ∧ totalI xs ≤ wFiles xs := by
  induction xs with
  | nil => simp [totalI, wFiles]
  | cons x r ih => simp [totalI, wFiles, wFile]; omega
theorem totalI_take_le (xs : List PF) (k : Nat) : totalI (xs.take k) ≤ totalI xs := by
  have h := totalI_append (xs.take k) (xs.drop k)
  rw [List.take_append_drop] at h
  have := (totalI_bd (xs.drop k)).1
  omega
theorem wFiles_take_le (xs : List PF) (k : Nat) : wFiles (xs.take k) ≤ wFiles xs := by
  have h := wFiles_append (xs.take k) (xs.drop k)
  rw [List.take_append_drop] at h
  have := wFiles_nonneg (xs.drop k)
  omega
theorem wFiles_get (xs : List PF) (k : Nat) (hk : k < xs.length) : ((xs.getD k (ByteArray.empty, [])).1.size : Int) + ((xs.getD k (ByteArray.empty, [])).2.length : Int) ≤ wFiles xs := by
  induction xs generalizing k with
  | nil => simp at hk
  | cons x r ih =>
    cases k with
    | zero => have := wFiles_nonneg r; simp [wFiles, wFile]; omega
    | succ k =>
      have h1 := ih k (by simpa using hk)
      simp only [wFiles, wFile]
      simp only [List.getD_cons_succ]
      omega
theorem wPends_get (xs : List PP) (k : Nat) (hk : k < xs.length) : ((xs.getD k (ByteArray.empty, 0, [])).1.size : Int) + ((xs.getD k (ByteArray.empty, 0, [])).2.2.length : Int) ≤ wPends xs := by
  induction xs generalizing k with
  | nil => simp at hk
  | cons x r ih =>
    cases k with
    | zero => have := wPends_nonneg r; simp [wPends, wPend]; omega
    | succ k =>
      have h1 := ih k (by simpa using hk)
      simp only [wPends, wPend]
      simp only [List.getD_cons_succ]
      omega
/-- 'a >= b' on names. -/
def geB (a b : ByteArray) : Bool := !Op.bytesLess a.toList b.toList
/-- One file of a list is as it should be. -/
def fileOk (fs : List PF) (i : Nat) : Bool :=
  nameB (fs.getD i (ByteArray.empty, [])).1 && !((fs.getD i (ByteArray.empty, [])).2.length == 0) && ((fs.getD i (ByteArray.empty, [])).2.length % 128 == 0) && !(decide (0 < i) && geB (fs.getD (i - 1) (ByteArray.empty, [])).1 (fs.getD i (ByteArray.empty, [])).1)
def filesOk (fs : List PF) : Bool := decide (∀ i, i < fs.length → fileOk fs i = true)
theorem filesOk_no {fs : List PF} {i : Nat} (hi : i < fs.length) (h : fileOk fs i = false) : filesOk fs = false := by
  unfold filesOk
  rw [decide_eq_false_iff_not]
  intro h2
  rw [h2 i hi] at h
  cases h
theorem filesOk_yes {fs : List PF} (h : ∀ i, i < fs.length → fileOk fs i = true) : filesOk fs = true := by
  unfold filesOk
  exact decide_eq_true h
end Go.Proofs.Ytcmhobbpeaeebaa
namespace Go.Proofs.Ytcmhobbpeaeebaa
open Go.RowKit
set_option linter.unusedVariables false
set_option maxRecDepth 100000

def keyB (s : ByteArray) : Bool := decide (1 ≤ s.size) && decide (s.size ≤ 8)
set_option maxHeartbeats 400000 in
theorem l2Key_any (s : ByteArray) (hs : s.size ≤ maxLen) (w : World) :
    Calls Try.prog 78 #[.string s] w fun e w' => e = .returned (.bool (keyB s)) ∧ w' = w := by
  unfold maxLen at hs
  by_cases h1 : 1 ≤ s.size
  · go_enter Try.func78, Try.ntmps78
    go_wp2
    go_ret
    exact ⟨by simp [keyB, h1]; omega, rfl⟩
  · have hd : decide ((1 : Int) ≤ s.size) = false := by simp; omega
    go_enter Try.func78, Try.ntmps78
    go_wp2
    go_ret
    exact ⟨by simp [keyB, h1], rfl⟩

/-- A page as plain data. -/
structure Pg where
  kind : Int
  tx : Int
  id : Int
  root : Int
  count : Int
  ks : List PK
  es : List PE
  next : Int
  data : ByteArray
def inB (low last x : Int) : Bool := decide (low ≤ x ∧ x ≤ last)
def metaOk (low last : Int) (p : Pg) : Bool := inB 1 2000000000 p.id && inB low last p.root && inB 0 2000000000 p.count && decide (p.ks.length = 0) && decide (p.es.length = 0) && decide (p.next = 0) && p.data.toList.isEmpty

set_option maxHeartbeats 800000 in
theorem l2Body_meta (p : Pg) (hk : p.kind = 1) (ka : Option Addr) (kc : Nat) (ea : Option Addr) (ec : Nat) (hd : p.data.size ≤ maxLen) (low last : Int) (w : World) (hkl : p.ks.length ≤ maxLen) (hel : p.es.length ≤ maxLen) :
    Calls Try.prog 39 #[.agg #[.int .i64 p.kind, .int .i64 p.tx, .int .i64 p.id, .int .i64 p.root, .int .i64 p.count, .slice ka p.ks.length kc, .slice ea p.es.length ec, .int .i64 p.next, .string p.data], .int .i64 low, .int .i64 last] w fun e w' => e = .returned (.bool (metaOk low last p)) ∧ Below w.heap.size w w' := by
  obtain ⟨kind, tx, id, root, count, ks, es, next, data⟩ := p
  simp only at hk hd hkl hel ⊢
  subst hk
  unfold maxLen at hd hkl hel
  go_enter Try.func39, Try.ntmps39
  go_wp2_with (go_at_call 38; refine (l1In_any _ _ _ _).mono ?_; rintro e w1 ⟨rfl, rfl⟩)
  all_goals go_ret
  all_goals refine ⟨?_, (Below.refl _ _).alloc (Nat.le_refl _) _⟩
  all_goals simp [metaOk, inB, *]
def noMeta (p : Pg) : Bool := decide (p.id = 0 ∧ p.root = 0 ∧ p.count = 0)
def overOk (low last : Int) (p : Pg) : Bool := noMeta p && decide (p.ks.length = 0) && decide (p.es.length = 0) && decide (1 ≤ p.data.size) && decide (p.data.size ≤ 96) && (decide (p.next = 0) || (inB low last p.next && decide (p.data.size = 96)))
set_option maxHeartbeats 800000 in
theorem l2Body_other (p : Pg) (hk1 : p.kind ≠ 1) (hk2 : p.kind ≠ 2) (hk3 : p.kind ≠ 3) (hk4 : p.kind ≠ 4) (ka : Option Addr) (kc : Nat) (ea : Option Addr) (ec : Nat) (low last : Int) (w : World) :
    Calls Try.prog 39 #[.agg #[.int .i64 p.kind, .int .i64 p.tx, .int .i64 p.id, .int .i64 p.root, .int .i64 p.count, .slice ka p.ks.length kc, .slice ea p.es.length ec, .int .i64 p.next, .string p.data], .int .i64 low, .int .i64 last] w fun e w' => e = .returned (.bool false) ∧ Below w.heap.size w w' := by
  obtain ⟨kind, tx, id, root, count, ks, es, next, data⟩ := p
  simp only at hk1 hk2 hk3 hk4 ⊢
  have k1 : (kind == 1) = false := by simp; exact hk1
  have k2 : (kind == 2) = false := by simp; exact hk2
  have k3 : (kind == 3) = false := by simp; exact hk3
  have k4 : (kind == 4) = false := by simp; exact hk4
  go_enter Try.func39, Try.ntmps39
  go_wp2_with fail
  all_goals go_ret
  all_goals exact ⟨rfl, (Below.refl _ _).alloc (Nat.le_refl _) _⟩
set_option maxHeartbeats 1600000 in
theorem l2Body_over (p : Pg) (hk : p.kind = 4) (ka : Option Addr) (kc : Nat) (ea : Option Addr) (ec : Nat) (hd : p.data.size ≤ maxLen) (low last : Int) (w : World) (hkl : p.ks.length ≤ maxLen) (hel : p.es.length ≤ maxLen) :
    Calls Try.prog 39 #[.agg #[.int .i64 p.kind, .int .i64 p.tx, .int .i64 p.id, .int .i64 p.root, .int .i64 p.count, .slice ka p.ks.length kc, .slice ea p.es.length ec, .int .i64 p.next, .string p.data], .int .i64 low, .int .i64 last] w fun e w' => e = .returned (.bool (overOk low last p)) ∧ Below w.heap.size w w' := by
  obtain ⟨kind, tx, id, root, count, ks, es, next, data⟩ := p
  simp only at hk hd hkl hel ⊢
  subst hk
  unfold maxLen at hd hkl hel
  go_enter Try.func39, Try.ntmps39
  go_wp2_with (go_at_call 38; refine (l1In_any _ _ _ _).mono ?_; rintro e w1 ⟨rfl, rfl⟩)
  all_goals go_ret
  all_goals refine ⟨?_, (Below.refl _ _).alloc (Nat.le_refl _) _⟩
  all_goals simp [overOk, noMeta, inB, *]
  all_goals first | omega | (rw [Bool.eq_iff_iff]; simp [*]; omega)
end Go.Proofs.Ytcmhobbpeaeebaa
namespace Go.Proofs.Ytcmhobbpeaeebaa
open Go.RowKit
set_option linter.unusedVariables false
set_option maxRecDepth 100000

def kidOk (low last : Int) (ks : List PK) (i : Nat) : Bool := inB low last (ks.getD i dK).2 && !(decide (0 < i) && (!keyB (ks.getD i dK).1 || geB (ks.getD (i - 1) dK).1 (ks.getD i dK).1))
def kidsOk (low last : Int) (ks : List PK) : Bool := (List.range ks.length).all (kidOk low last ks)
def branchOk (low last : Int) (p : Pg) : Bool := noMeta p && decide (p.es.length = 0) && decide (p.next = 0) && p.data.toList.isEmpty && decide (2 ≤ p.ks.length) && decide (p.ks.length ≤ 4) && (p.ks.getD 0 dK).1.toList.isEmpty && kidsOk low last p.ks

/-- The meta of a page that is no meta page, case by case. -/
theorem meta_cases (id root count : Int) {P : Prop} (h0 : id = 0 → root = 0 → count = 0 → P) (h1 : ¬ id = 0 → P) (h2 : id = 0 → ¬ root = 0 → P) (h3 : id = 0 → root = 0 → ¬ count = 0 → P) : P := by
  by_cases a : id = 0
  · by_cases b : root = 0
    · by_cases c : count = 0
      · exact h0 a b c
      · exact h3 a b c
    · exact h2 a b
  · exact h1 a
set_option maxHeartbeats 1600000 in
theorem l2Body_branch0 (tx id root count : Int) (ka : Option Addr) (n kc : Nat) (ea : Option Addr) (m ec : Nat) (next : Int) (data : ByteArray) (low last : Int) (w : World) (hn : n ≤ maxLen) (hm : m ≤ maxLen) (hd : data.size ≤ maxLen)
    (h : ¬ id = 0 ∨ ¬ root = 0 ∨ ¬ count = 0 ∨ ¬ m = 0 ∨ ¬ next = 0 ∨ ¬ data.toList = [] ∨ n < 2 ∨ 4 < n) :
    Calls Try.prog 39 #[.agg #[.int .i64 2, .int .i64 tx, .int .i64 id, .int .i64 root, .int .i64 count, .slice ka n kc, .slice ea m ec, .int .i64 next, .string data], .int .i64 low, .int .i64 last] w fun e w' => e = .returned (.bool false) ∧ Below w.heap.size w w' := by
  unfold maxLen at hd hn hm
  refine meta_cases id root count ?_ ?_ ?_ ?_
  · rintro rfl rfl rfl
    by_cases h1 : m = 0
    · subst h1
      by_cases h2 : next = 0
      · subst h2
        by_cases h3 : data.toList = []
        · by_cases h4 : n < 2
          · go_enter Try.func39, Try.ntmps39
            go_wp2
            go_ret
            exact ⟨rfl, (Below.refl _ _).alloc (Nat.le_refl _) _⟩
          · have h5 : 4 < n := by simp [h3] at h; omega
            go_enter Try.func39, Try.ntmps39
            go_wp2
            go_ret
            exact ⟨rfl, (Below.refl _ _).alloc (Nat.le_refl _) _⟩
        · go_enter Try.func39, Try.ntmps39
          go_wp2
          go_ret
          exact ⟨rfl, (Below.refl _ _).alloc (Nat.le_refl _) _⟩
      · have h2' : (next != 0) = true := by simpa using h2
        go_enter Try.func39, Try.ntmps39
        go_wp2
        go_ret
        exact ⟨rfl, (Below.refl _ _).alloc (Nat.le_refl _) _⟩
    · have h1' : (0 : Int) < m := by omega
      clear h1 h
      go_enter Try.func39, Try.ntmps39
      go_wp2
      go_ret
      exact ⟨rfl, (Below.refl _ _).alloc (Nat.le_refl _) _⟩
  all_goals
    intros
    clear h
    go_enter Try.func39, Try.ntmps39
    go_wp2
    go_ret
    exact ⟨rfl, (Below.refl _ _).alloc (Nat.le_refl _) _⟩
end Go.Proofs.Ytcmhobbpeaeebaa
namespace Go.Proofs.Ytcmhobbpeaeebaa
open Go.RowKit
set_option linter.unusedVariables false
set_option maxRecDepth 100000

theorem all_range {f : Nat → Bool} {k n : Nat} (h : (List.range n).all f = true) (hk : k < n) : f k = true := by
  rw [List.all_eq_true] at h; exact h k (List.mem_range.2 hk)
theorem all_range_false {f : Nat → Bool} {k n : Nat} (hk : k < n) (h : f k = false) : (List.range n).all f = false := by
  rw [List.all_eq_false]; exact ⟨k, List.mem_range.2 hk, by simp [h]⟩
theorem all_range_succ {f : Nat → Bool} {k : Nat} (h : (List.range k).all f = true) (h2 : f k = true) : (List.range (k + 1)).all f = true := by
  rw [List.range_succ, List.all_append, h]; simp [h2]

set_option maxHeartbeats 1600000 in
theorem l2Body_branch1 (tx : Int) (ka : Option Addr) (kc : Nat) (ks : List PK) (n : Nat) (ea : Option Addr) (ec : Nat) (data : ByteArray) (low last : Int) (w : World) (A B : Nat) (hB : B ≤ w.heap.size) (hK : KidsAt w A B ka n kc ks) (hd : data.toList = []) (h2 : 2 ≤ n) (h4 : n ≤ 4) :
    Calls Try.prog 39 #[.agg #[.int .i64 2, .int .i64 tx, .int .i64 0, .int .i64 0, .int .i64 0, .slice ka n kc, .slice ea 0 ec, .int .i64 0, .string data], .int .i64 low, .int .i64 last] w fun e w' => e = .returned (.bool ((ks.getD 0 dK).1.toList.isEmpty && kidsOk low last ks)) ∧ Below w.heap.size w w' := by
  have hb0 : Below w.heap.size w (w.alloc (.cells #[.int .i64 2, .int .i64 tx, .int .i64 0, .int .i64 0, .int .i64 0, .slice ka n kc, .slice ea 0 ec, .int .i64 0, .string data] 28)) := (Below.refl _ _).alloc (Nat.le_refl _) _
  have hK1 := hK.below (hb0.mono hB)
  have HL : Hid (ks.length = n) := hK.1
  clear hK
  obtain ⟨b, off, rfl, hb, hfit, e0, e1⟩ := KidsAt.at hK1 (i := 0) (by omega)
  have hbs : b < w.heap.size := by omega
  have hbn : b ≠ w.heap.size := by omega
  simp only [Nat.zero_mul, Nat.add_zero] at e0 e1
  generalize hs0 : (ks.getD 0 dK).1 = s0 at e0
  have HS0 : Hid ((ks.getD 0 dK).1 = s0) := hs0
  clear hs0
  by_cases hse : s0.toList = []
  · go_enter Try.func39, Try.ntmps39
    go_wp2_with fail
    obtain ⟨W0, hW0⟩ : ∃ W0, W0 = (w.alloc (.cells #[.int .i64 2, .int .i64 tx, .int .i64 0, .int .i64 0, .int .i64 0, .slice (some ⟨b, off, none⟩) n kc, .slice ea 0 ec, .int .i64 0, .string data] 28)) := ⟨_, rfl⟩
    have x5 : W0.cell? ⟨w.heap.size, 5, none⟩ = some (.slice (some ⟨b, off, none⟩) n kc) := by rw [hW0]; simp
    have HSE : Hid (s0.toList.isEmpty = true) := by show _ = _; simp [hse]
    clear e0 e1 hse
    rw [← hW0] at hb0 hK1 ⊢
    clear hW0
    go_loopw [8] (fun i wr => ∃ k : Nat, k ≤ n ∧ i = .int .i64 k ∧ Hid ((List.range k).all (kidOk low last ks) = true) ∧ Hid (∃ q, wr = W0.drewN q)) (fun i _ => n - (intOf i).toNat)
    case atStart => exact ⟨0, Nat.zero_le _, rfl, rfl, 0, rfl⟩
    case round =>
      obtain ⟨k, hk, rfl, hok, hq⟩ := hrel
      have HD : Hid (∀ q, ∃ q', wr.drewN q = W0.drewN q') := by
        obtain ⟨q0, h0⟩ := hq.out
        intro q
        exact ⟨q0 + q, by rw [h0, World.drewN_drewN]⟩
      have hbq : ∀ q, Below w.heap.size w (wr.drewN q) := fun q => by
        obtain ⟨q', h'⟩ := HD.out q
        rw [h']
        exact hb0.trans ⟨rfl, rfl, rfl, Nat.le_refl _, fun _ _ => rfl⟩
      have hK2 : KidsAt wr A B (some ⟨b, off, none⟩) n kc ks := by
        obtain ⟨q0, h0⟩ := hq.out
        rw [h0]
        exact hK1
      have x6 : wr.cell? ⟨w.heap.size, 5, none⟩ = some (.slice (some ⟨b, off, none⟩) n kc) := by
        obtain ⟨q0, h0⟩ := hq.out
        rw [h0]
        exact x5
      clear hK1 x5 hq
      by_cases hlt : k < n
      · obtain ⟨b', off', hbo, hb', hfk, f0, f1⟩ := KidsAt.at hK2 (i := k) hlt
        simp only [Option.some.injEq, Addr.mk.injEq, and_true] at hbo
        obtain ⟨rfl, rfl⟩ := hbo
        have HKO : Hid (kidOk low last ks k = (inB low last (ks.getD k dK).2 && !(decide (0 < k) && (!keyB (ks.getD k dK).1 || geB (ks.getD (k - 1) dK).1 (ks.getD k dK).1)))) := rfl
        have hnk : n ≤ ks.length := by have := HL.out; omega
        generalize hkd : ks.getD k dK = kd at f0 f1 HKO hfk
        clear hkd
        by_cases t1 : low ≤ kd.2 ∧ kd.2 ≤ last
        · have s1 : decide (low ≤ kd.2 ∧ kd.2 ≤ last) = true := decide_eq_true t1
          by_cases t4 : 0 < k
          · obtain ⟨b'', off'', hbo, hb'', hfj, g0, g1⟩ := KidsAt.at hK2 (i := k - 1) (by omega)
            simp only [Option.some.injEq, Addr.mk.injEq, and_true] at hbo
            obtain ⟨rfl, rfl⟩ := hbo
            generalize hpd : ks.getD (k - 1) dK = pd at g0 g1 HKO
            clear hpd hK2
            obtain ⟨k1, hk1⟩ : ∃ k1, k1 = k - 1 := ⟨_, rfl⟩
            rw [← hk1] at g0
            have i2 : (k : Int) - 1 = (k1 : Int) := by omega
            have i1 : k1 < n := by omega
            have i3 : IntKind.i64.wrap (k1 : Int) = (k1 : Int) := by rw [IntKind.wrap_i64]; omega
            have s4 : decide ((0 : Int) < (k : Int)) = true := by simp; omega
            clear hk1
            by_cases t2 : keyB kd.1 = true
            · by_cases t5 : geB pd.1 kd.1 = true
              · have HB : Hid (kidsOk low last ks = false) := all_range_false (k := k) (by omega) (by rw [HKO.out]; simp [t2, t4, t5])
                have s5 : Op.bytesLess pd.1.toList kd.1.toList = false := by simpa [geB] using t5
                go_wp2_with fail
                go_quiet (first | (go_at_call 38; exact Calls.quiet_of_same (l1In_any _ _ _ _)) | (go_at_call 78; exact Calls.quiet_of_same (l2Key_any _ hfk.1 _)))
                go_wp2
                go_ret
                exact ⟨by rw [HB.out]; simp, hbq _⟩
              · have HB : Hid ((List.range (k + 1)).all (kidOk low last ks) = true) := all_range_succ hok.out (by rw [HKO.out]; simp [t1, t2, t4, t5, inB])
                have s5 : Op.bytesLess pd.1.toList kd.1.toList = true := by simpa [geB] using t5
                go_wp2_with fail
                go_quiet (first | (go_at_call 38; exact Calls.quiet_of_same (l1In_any _ _ _ _)) | (go_at_call 78; exact Calls.quiet_of_same (l2Key_any _ hfk.1 _)))
                go_wp2
                go_roundw
                case rel => exact ⟨k + 1, by omega, by go_num, HB, HD.out _⟩
                case measure => simp [intOf]; omega
            · have HB : Hid (kidsOk low last ks = false) := all_range_false (k := k) (by omega) (by rw [HKO.out]; simp [t2, t4])
              have t2' : keyB kd.1 = false := by simpa using t2
              go_wp2_with fail
              go_quiet (first | (go_at_call 38; exact Calls.quiet_of_same (l1In_any _ _ _ _)) | (go_at_call 78; exact Calls.quiet_of_same (l2Key_any _ hfk.1 _)))
              go_wp2
              go_ret
              exact ⟨by rw [HB.out]; simp, hbq _⟩
          · have HB : Hid ((List.range (k + 1)).all (kidOk low last ks) = true) := all_range_succ hok.out (by rw [HKO.out]; simp [t1, t4, inB])
            have s4 : decide ((0 : Int) < (k : Int)) = false := by simp; omega
            clear hK2
            go_wp2_with fail
            go_quiet (first | (go_at_call 38; exact Calls.quiet_of_same (l1In_any _ _ _ _)) | (go_at_call 78; exact Calls.quiet_of_same (l2Key_any _ hfk.1 _)))
            go_wp2
            go_roundw
            case rel => exact ⟨k + 1, by omega, by go_num, HB, HD.out _⟩
            case measure => simp [intOf]; omega
        · have s1 : decide (low ≤ kd.2 ∧ kd.2 ≤ last) = false := decide_eq_false t1
          have HB : Hid (kidsOk low last ks = false) := all_range_false (k := k) (by omega) (by rw [HKO.out]; simp [inB, t1])
          clear hK2
          go_wp2_with fail
          go_quiet (first | (go_at_call 38; exact Calls.quiet_of_same (l1In_any _ _ _ _)) | (go_at_call 78; exact Calls.quiet_of_same (l2Key_any _ hfk.1 _)))
          go_wp2
          go_ret
          exact ⟨by rw [HB.out]; simp, hbq _⟩
      · have HB : Hid (kidsOk low last ks = true) := by have := hok.out; rw [show k = n by omega, ← HL.out] at this; exact this
        go_wp2
        go_ret
        exact ⟨by rw [HSE.out, HB.out]; rfl, hbq 0⟩
  · have hse2 : s0.toList.isEmpty = false := by simp [hse]
    go_enter Try.func39, Try.ntmps39
    go_wp2
    go_ret
    refine ⟨?_, hb0⟩
    simp [hse]
end Go.Proofs.Ytcmhobbpeaeebaa
namespace Go.Proofs.Ytcmhobbpeaeebaa
open Go.RowKit
set_option linter.unusedVariables false
set_option maxRecDepth 100000

def shortB (e : PE) : Bool := decide (e.2.2.1 = 0) && decide (e.2.2.2 = (e.2.1.size : Int)) && decide (e.2.1.size ≤ 8)
def longB (low last : Int) (e : PE) : Bool := inB low last e.2.2.1 && e.2.1.toList.isEmpty && inB 9 400 e.2.2.2
def entOk (low last : Int) (es : List PE) (i : Nat) : Bool := keyB (es.getD i dE).1 && (shortB (es.getD i dE) || longB low last (es.getD i dE)) && !(decide (0 < i) && geB (es.getD (i - 1) dE).1 (es.getD i dE).1)
def entsOk (low last : Int) (es : List PE) : Bool := (List.range es.length).all (entOk low last es)
def leafOk (low last : Int) (p : Pg) : Bool := noMeta p && decide (p.ks.length = 0) && decide (p.next = 0) && p.data.toList.isEmpty && decide (p.es.length ≤ 4) && entsOk low last p.es

set_option maxHeartbeats 1600000 in
theorem l2Body_leaf0 (tx id root count : Int) (ka : Option Addr) (n kc : Nat) (ea : Option Addr) (m ec : Nat) (next : Int) (data : ByteArray) (low last : Int) (w : World) (hn : n ≤ maxLen) (hm : m ≤ maxLen) (hd : data.size ≤ maxLen)
    (h : ¬ id = 0 ∨ ¬ root = 0 ∨ ¬ count = 0 ∨ ¬ n = 0 ∨ ¬ next = 0 ∨ ¬ data.toList = [] ∨ 4 < m) :
    Calls Try.prog 39 #[.agg #[.int .i64 3, .int .i64 tx, .int .i64 id, .int .i64 root, .int .i64 count, .slice ka n kc, .slice ea m ec, .int .i64 next, .string data], .int .i64 low, .int .i64 last] w fun e w' => e = .returned (.bool false) ∧ Below w.heap.size w w' := by
  unfold maxLen at hd hn hm
  refine meta_cases id root count ?_ ?_ ?_ ?_
  · rintro rfl rfl rfl
    by_cases h1 : n = 0
    · subst h1
      by_cases h2 : next = 0
      · subst h2
        by_cases h3 : data.toList = []
        · have h5 : 4 < m := by simp [h3] at h; omega
          go_enter Try.func39, Try.ntmps39
          go_wp2
          go_ret
          exact ⟨rfl, (Below.refl _ _).alloc (Nat.le_refl _) _⟩
        · go_enter Try.func39, Try.ntmps39
          go_wp2
          go_ret
          exact ⟨rfl, (Below.refl _ _).alloc (Nat.le_refl _) _⟩
      · have h2' : (next != 0) = true := by simpa using h2
        go_enter Try.func39, Try.ntmps39
        go_wp2
        go_ret
        exact ⟨rfl, (Below.refl _ _).alloc (Nat.le_refl _) _⟩
    · have h1' : (0 : Int) < n := by omega
      clear h1 h
      go_enter Try.func39, Try.ntmps39
      go_wp2
      go_ret
      exact ⟨rfl, (Below.refl _ _).alloc (Nat.le_refl _) _⟩
  all_goals
    intros
    clear h
    go_enter Try.func39, Try.ntmps39
    go_wp2
    go_ret
    exact ⟨rfl, (Below.refl _ _).alloc (Nat.le_refl _) _⟩
end Go.Proofs.Ytcmhobbpeaeebaa
