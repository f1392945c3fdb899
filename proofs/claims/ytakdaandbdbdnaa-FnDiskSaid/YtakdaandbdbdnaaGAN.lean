import Derived.Test.YtakdaandbdbdnaaGAA
import Derived.Test.YtakdaandbdbdnaaGAB
import Derived.Test.YtakdaandbdbdnaaGAC
import Derived.Test.YtakdaandbdbdnaaGAD
import Derived.Test.YtakdaandbdbdnaaGAE
import Derived.Test.YtakdaandbdbdnaaGAH
import Derived.Test.YtakdaandbdbdnaaGAL
import Derived.Test.YtakdaandbdbdnaaGAM
namespace Go.Proofs.Ytakdaandbdbdnaa
open Go.RowKit
set_option linter.unusedVariables false
set_option linter.unusedSimpArgs false
set_option maxRecDepth 100000
set_option maxHeartbeats 800000 in
theorem l1DrawName_any (C A B : Nat) (w : World) (h : DCur w C A B) :
  Calls Try.prog 31 #[.pointer (some ⟨C, 0, none⟩)] w fun e w' => ∃ s : ByteArray, e = .returned (.string s) ∧ s.size ≤ 3 ∧ DCur w' C A B ∧ Fr (fun g => g = C) w w' := by
 have hCl := h.lt
 have hal : Below w.heap.size w (w.alloc (.cells #[.string ⟨#[97]⟩, .string ⟨#[100, 98]⟩, .string ⟨#[116, 109, 112]⟩, .string ⟨#[110, 101, 119]⟩, .string ⟨#[108, 111, 103]⟩, .string ⟨#[122, 122]⟩] 9)) := (Below.refl _ _).alloc (Nat.le_refl _) _
 have X := heap_alloc_new w (.cells #[.string ⟨#[97]⟩, .string ⟨#[100, 98]⟩, .string ⟨#[116, 109, 112]⟩, .string ⟨#[110, 101, 119]⟩, .string ⟨#[108, 111, 103]⟩, .string ⟨#[122, 122]⟩] 9)
 have hD := h.below hal
 clear h
 go_enter Try.func31, Try.ntmps31
 go_wp2_with fail
 refine (l1Below_any C A B _ hD 6 (by omega) (by omega)).mono ?_
 rintro e w1 ⟨x, rfl, hx, hD1, hF1⟩
 have X1 := (hF1.block w.heap.size (by simp) (by omega)).trans X
 have s1 := hF1.size
 simp at s1
 have F1 : Fr (fun g => g = C) w w1 := (Fr.of_below hal).trans hF1
 have l1 : w.heap.size < w1.heap.size := by omega
 have hc : ∃ s : ByteArray, w1.cell? ⟨w.heap.size, x, none⟩ = some (.string s) ∧ s.size ≤ 3 := by
  rcases (show x = 0 ∨ x = 1 ∨ x = 2 ∨ x = 3 ∨ x = 4 ∨ x = 5 by omega) with rfl | rfl | rfl | rfl | rfl | rfl
  ·exact ⟨⟨#[97]⟩, by simp [World.cell?, X1], by decide⟩
  ·exact ⟨⟨#[100, 98]⟩, by simp [World.cell?, X1], by decide⟩
  ·exact ⟨⟨#[116, 109, 112]⟩, by simp [World.cell?, X1], by decide⟩
  ·exact ⟨⟨#[110, 101, 119]⟩, by simp [World.cell?, X1], by decide⟩
  ·exact ⟨⟨#[108, 111, 103]⟩, by simp [World.cell?, X1], by decide⟩
  ·exact ⟨⟨#[122, 122]⟩, by simp [World.cell?, X1], by decide⟩
 obtain ⟨s, hs, hl⟩ := hc
 clear X X1 hal hD hF1
 go_wp2
 go_ret
 exact ⟨s, rfl, hl, hD1, F1⟩
theorem DCur.belowN {w w' : World} {C A B N : Nat} (h : DCur w C A B) (hb : Below N w w') (hN : C < N) : DCur w' C A B := by
 obtain ⟨h1, a, n, c, bs, i, hh, h2, h3, h4⟩ := h
 exact ⟨h1, a, n, c, bs, i, hh, (hb.block C hN).trans h2, h3, h4.below (hb.mono (by omega))⟩
theorem Fr.lateD {S T : Nat → Prop} {a b c : World} (h : Fr S a b) (k : Fr T b c) (hT : ∀ g, T g → a.heap.size ≤ g) : Fr S a c :=
 ⟨k.1.trans h.1, k.2.trans h.2, k.3.trans h.3, Nat.le_trans h.size k.size, fun g hg hS => (k.block g (Nat.lt_of_lt_of_le hg h.size) (fun e => by have := hT g e; omega)).trans (h.block g hg hS)⟩
def BytesV (ys : List Value) : Prop := ∀ v ∈ ys, ∃ b : Int, v = .int .u8 b ∧ 0 ≤ b ∧ b ≤ 255
theorem BytesV.list : ∀ {ys : List Value}, BytesV ys → ∃ bs : List Int, ys = u8s bs ∧ ∀ x ∈ bs, 0 ≤ x ∧ x ≤ 255
 | [], _ => ⟨[], rfl, fun x hx => by cases hx⟩
 | v :: r, h => by
  obtain ⟨b, rfl, hb⟩ := h v List.mem_cons_self
  obtain ⟨bs, rfl, hbs⟩ := BytesV.list (ys := r) (fun u hu => h u (List.mem_cons_of_mem _ hu))
  exact ⟨b :: bs, rfl, fun x hx => (List.mem_cons.1 hx).elim (fun e => e ▸ hb) (fun h2 => hbs x h2)⟩
theorem BytesV.set {ys : List Value} (h : BytesV ys) (i : Nat) {b : Int} (hb : 0 ≤ b ∧ b ≤ 255) : BytesV (ys.set i (.int .u8 b)) := by
 intro v hv
 rcases List.mem_or_eq_of_mem_set hv with h1 | h1
 ·exact h v h1
 ·exact ⟨b, h1, hb⟩
set_option maxHeartbeats 1600000 in
theorem l1DrawPage_any (C A B : Nat) (w : World) (h : DCur w C A B) :
  Calls Try.prog 33 #[.pointer (some ⟨C, 0, none⟩)] w fun e w' => ∃ (g : Nat) (bs : List Int), e = .returned (.slice (some ⟨g, 0, none⟩) 128 128) ∧ w'.ownsRow w.heap.size 5 1 (.slice (some ⟨g, 0, none⟩) 128 128) 128 (u8s bs) ∧ bs.length = 128 ∧ (∀ x ∈ bs, 0 ≤ x ∧ x ≤ 255) ∧ DCur w' C A B ∧ Fr (fun g => g = C) w w' := by
 obtain ⟨i0, hi, hz0, hz1, hz2⟩ := info_parts info_u8
 have hCl := h.lt
 go_enter Try.func33, Try.ntmps33
 go_wp2_with (at_make; refine wpList_make_full _ rfl _ _ 22 rfl w.heap.size 5 i0 (.int .u8 0) 1 Try.underlying22 hi hz0 hz1 .i64 .i64 128 128 128 rfl rfl rfl rfl (by rw [hz2]; omega) (by unfold maxLen; omega) (Nat.le_refl _) ?_; intro w1 hown hgr)
 have hb1 : Below w.heap.size w w1 := (Below.refl _ _).grown hgr (Nat.le_refl _) (by simp)
 have hD1 := h.below hb1
 have hmk : (madeCells (Value.int .u8 0).cells (128 * 1)).toList = List.replicate 128 (Value.int .u8 0) := by kernel_rfl
 rw [hmk] at hown
 have hV1 : BytesV (List.replicate 128 (Value.int .u8 0)) := fun v hv => ⟨0, List.eq_of_mem_replicate hv, by omega, by omega⟩
 have s1 := hb1.size
 refine (l1Below_any C A B w1 hD1 256 (by omega) (by omega)).mono ?_
 rintro e w2 ⟨x, rfl, hx, hD2, hF2⟩
 go_wp2_with fail
 refine (l1Below_any C A B w2 hD2 256 (by omega) (by omega)).mono ?_
 rintro e w3 ⟨y, rfl, hy, hD3, hF3⟩
 have hown3 : w3.ownsRow w.heap.size 5 1 (.slice (some ⟨w.heap.size, 0, none⟩) 128 128) 128 _ := owns_fr (owns_fr hown hF2 (fun g e e2 => by simp [Value.ownBlock] at e; omega)) hF3 (fun g e e2 => by simp [Value.ownBlock] at e; omega)
 have F3 : Fr (fun g => g = C) w w3 := ((Fr.of_below hb1).trans hF2).trans hF3
 have H0 : Hid (w3.ownsRow w.heap.size 5 1 (.slice (some ⟨w.heap.size, 0, none⟩) 128 128) 128 (List.replicate 128 (Value.int .u8 0)) ∧ BytesV (List.replicate 128 (Value.int .u8 0)) ∧ DCur w3 C A B ∧ Fr (fun g => g = C) w w3) := ⟨hown3, hV1, hD3, F3⟩
 clear hown hgr hb1 hD1 hD2 hF2 hF3 h hown3 hV1 hD3 F3 hmk
 go_wp2_with fail
 go_loopw [6, 14] (fun _ i wr => ∃ (k : Nat) (ys : List Value), k ≤ 128 ∧ i = .int .i64 k ∧ Hid (wr.ownsRow w.heap.size 5 1 (.slice (some ⟨w.heap.size, 0, none⟩) 128 128) 128 ys ∧ BytesV ys ∧ DCur wr C A B ∧ Fr (fun g => g = C) w wr)) (fun _ i _ => 128 - (intOf i).toNat)
 case atStart => exact ⟨0, _, by omega, rfl, H0⟩
 case round =>
  clear H0
  obtain ⟨k, ys, hk, rfl, HX⟩ := hrel
  by_cases hlt : k < 128
  ·obtain ⟨hown, hV, hD, hF⟩ := HX.out
   have hf := hown.frozenAt k
   have hxl := hown.1
   obtain ⟨u, hu⟩ : ∃ u, wr.cell? ⟨w.heap.size, k, none⟩ = some u := ⟨ys[k]'(by omega), by rw [hown.cellAt k (by omega)]; exact List.getElem?_eq_getElem _⟩
   have hCl := hD.lt
   have HS : Hid (∀ b : Int, 0 ≤ b ∧ b ≤ 255 → (wr.setCell ⟨w.heap.size, k, none⟩ (.int .u8 b)).ownsRow w.heap.size 5 1 (.slice (some ⟨w.heap.size, 0, none⟩) 128 128) 128 (ys.set k (.int .u8 b)) ∧ BytesV (ys.set k (.int .u8 b)) ∧ DCur (wr.setCell ⟨w.heap.size, k, none⟩ (.int .u8 b)) C A B ∧ Fr (fun g => g = C) w (wr.setCell ⟨w.heap.size, k, none⟩ (.int .u8 b))) := fun b hb => by
    obtain ⟨R1, R2⟩ := hown.stored k (.int .u8 b)
    have hfr := fr_setCell wr w.heap.size k (.int .u8 b)
    exact ⟨R1, hV.set k hb, hD.belowN (hfr.below (B := w.heap.size) hF.size (fun g e => by omega)) (by omega), hF.lateD hfr (fun g e => by omega)⟩
   clear hown hV hD hF HX
   go_wp2
   go_roundw
   case rel => exact ⟨k + 1, _, by omega, by go_num, HS.out _ ⟨Int.emod_nonneg _ (by decide), by have := Int.emod_lt_of_pos ((x : Int) + (k : Int) % 3 * (y : Int)) (show (0 : Int) < 256 by decide); omega⟩⟩
   case measure => simp [intOf]; omega
  ·obtain rfl : k = 128 := by omega
   obtain ⟨hown, hV, hD, hF⟩ := HX.out
   obtain ⟨bs, rfl, hbs⟩ := hV.list
   have hl : bs.length = 128 := by have := hown.1; simpa [u8s] using this
   have HH := HX
   clear hown hV hD hF HX
   go_wp2
   go_ret
   exact ⟨w.heap.size, bs, rfl, HH.out.1, hl, hbs, HH.out.2.2.1, HH.out.2.2.2⟩
structure GotF (w : World) (base g0 n : Nat) (fs : List PF) (k : Nat) (xs vs : List Value) : Prop where
 row : w.ownsRow base 92 2 (.slice (some ⟨g0, 0, none⟩) n n) n xs
 len : vs.length = k
 name : ∀ j, j < k → xs[j * 2]? = some (.string (fs.getD j (ByteArray.empty, [])).1) ∧ (fs.getD j (ByteArray.empty, [])).1.size ≤ maxLen
 val : ∀ j, j < k → xs[j * 2 + 1]? = some (vs.getD j (.slice none 0 0))
 data : ∀ j, j < k → w.ownsRow base 5 1 (vs.getD j (.slice none 0 0)) (fs.getD j (ByteArray.empty, [])).2.length (u8s (fs.getD j (ByteArray.empty, [])).2)
 byte : ∀ j, j < k → ∀ x ∈ (fs.getD j (ByteArray.empty, [])).2, 0 ≤ x ∧ x ≤ 255
 apart : ∀ i j, i < j → j < k → ∀ g, (vs.getD i (.slice none 0 0)).ownBlock = some g → (vs.getD j (.slice none 0 0)).ownBlock ≠ some g
structure GotP (w : World) (base g0 n : Nat) (fs : List PP) (k : Nat) (xs vs : List Value) : Prop where
 row : w.ownsRow base 71 3 (.slice (some ⟨g0, 0, none⟩) n n) n xs
 len : vs.length = k
 name : ∀ j, j < k → xs[j * 3]? = some (.string (fs.getD j (ByteArray.empty, 0, [])).1) ∧ (fs.getD j (ByteArray.empty, 0, [])).1.size ≤ maxLen
 page : ∀ j, j < k → xs[j * 3 + 1]? = some (.int .i64 (fs.getD j (ByteArray.empty, 0, [])).2.1) ∧ (-9223372036854775808 ≤ (fs.getD j (ByteArray.empty, 0, [])).2.1 ∧ (fs.getD j (ByteArray.empty, 0, [])).2.1 ≤ 9223372036854775807)
 val : ∀ j, j < k → xs[j * 3 + 2]? = some (vs.getD j (.slice none 0 0))
 data : ∀ j, j < k → w.ownsRow base 5 1 (vs.getD j (.slice none 0 0)) (fs.getD j (ByteArray.empty, 0, [])).2.2.length (u8s (fs.getD j (ByteArray.empty, 0, [])).2.2)
 byte : ∀ j, j < k → ∀ x ∈ (fs.getD j (ByteArray.empty, 0, [])).2.2, 0 ≤ x ∧ x ≤ 255
 apart : ∀ i j, i < j → j < k → ∀ g, (vs.getD i (.slice none 0 0)).ownBlock = some g → (vs.getD j (.slice none 0 0)).ownBlock ≠ some g

structure OwnZ (w : World) (lo hi : Nat) (v u : Value) (fs : List PF) (ps : List PP) : Prop where
 ex : ∃ xs vs ys us, OwnD w lo v u fs ps xs vs ys us ∧ ∀ g, Blk v vs g ∨ Blk u us g → g < hi
theorem OwnZ.below {w w' : World} {lo hi : Nat} {v u : Value} {fs : List PF} {ps : List PP} (h : OwnZ w lo hi v u fs ps) (hb : Below w.heap.size w w') : OwnZ w' lo hi v u fs ps := by
 obtain ⟨xs, vs, ys, us, hO, hg⟩ := h.ex
 exact ⟨xs, vs, ys, us, hO.below hb, hg⟩
theorem OwnZ.fr {S : Nat → Prop} {w w' : World} {lo hi : Nat} {v u : Value} {fs : List PF} {ps : List PP} (h : OwnZ w lo hi v u fs ps) (hf : Fr S w w') (hS : ∀ g, S g → g < lo ∨ hi ≤ g) : OwnZ w' lo hi v u fs ps := by
 obtain ⟨xs, vs, ys, us, hO, hg⟩ := h.ex
 refine ⟨xs, vs, ys, us, hO.frS hf (fun g hs hb => ?_), hg⟩
 have h1 := hg g hb
 have h2 := (hO.blk hb).1
 have := hS g hs
 omega
theorem OwnZ.files {w : World} {lo hi : Nat} {a : Option Addr} {n c : Nat} {u : Value} {fs : List PF} {ps : List PP} (h : OwnZ w lo hi (.slice a n c) u fs ps) : FilesAt w lo w.heap.size a n c fs := by
 obtain ⟨xs, vs, ys, us, hO, hg⟩ := h.ex
 obtain ⟨a', n', c', e, _, hF⟩ := hO.files.files
 cases e
 exact hF
theorem OwnZ.pends {w : World} {lo hi : Nat} {b : Option Addr} {m d : Nat} {v : Value} {fs : List PF} {ps : List PP} (h : OwnZ w lo hi v (.slice b m d) fs ps) : PendsAt w lo w.heap.size b m d ps := by
 obtain ⟨xs, vs, ys, us, hO, hg⟩ := h.ex
 obtain ⟨a', n', c', e, _, hF⟩ := hO.cache.pends
 cases e
 exact hF
theorem OwnZ.up {w : World} {lo hi hi' : Nat} {v u : Value} {fs : List PF} {ps : List PP} (h : OwnZ w lo hi v u fs ps) (hh : hi ≤ hi') : OwnZ w lo hi' v u fs ps := by
 obtain ⟨xs, vs, ys, us, hO, hg⟩ := h.ex
 exact ⟨xs, vs, ys, us, hO, fun g e => Nat.lt_of_lt_of_le (hg g e) hh⟩
theorem ResAt.z {w w' : World} {e : Ending} {er cp fu : Int} {de : Bool} {fs : List PF} {ps : List PP} (h : ResAt w e w' er fs ps cp fu de) : ∃ (a : Option Addr) (c : Nat) (b : Option Addr) (d : Nat), e = .returned (.agg #[.int .i64 er, .slice a fs.length c, .slice b ps.length d, .int .i64 cp, .int .i64 fu, .bool de]) ∧ OwnZ w' w.heap.size w'.heap.size (.slice a fs.length c) (.slice b ps.length d) fs ps ∧ Below w.heap.size w w' := by
 obtain ⟨a, c, b, d, xs, vs, ys, us, e1, hO, hb⟩ := h.out
 exact ⟨a, c, b, d, e1, ⟨xs, vs, ys, us, hO, fun g hg => (hO.blk hg).2⟩, hb⟩
theorem box_below {w w' : World} {N : Nat} {x : Obj} (h : w.heap[N]? = some x) (hb : Below w.heap.size w w') : w'.heap[N]? = some x := (hb.block N (Array.getElem?_eq_some_iff.1 h).1).trans h
theorem box_fr {S : Nat → Prop} {w w' : World} {N : Nat} {x : Obj} (h : w.heap[N]? = some x) (hf : Fr S w w') (hS : ¬ S N) : w'.heap[N]? = some x := (hf.block N (Array.getElem?_eq_some_iff.1 h).1 hS).trans h
theorem OwnZ.lo {w : World} {lo lo' hi : Nat} {v u : Value} {fs : List PF} {ps : List PP} (h : OwnZ w lo hi v u fs ps) (hl : lo' ≤ lo) : OwnZ w lo' hi v u fs ps := by
 obtain ⟨xs, vs, ys, us, hO, hg⟩ := h.ex
 exact ⟨xs, vs, ys, us, hO.lower hl, hg⟩
structure DSt (w wr : World) (N M C A B : Nat) (a : Option Addr) (c : Nat) (b : Option Addr) (d : Nat) (fs : List PF) (ps : List PP) (cp fu : Int) : Prop where
 hd : wr.heap[M]? = some (.cells #[.slice a fs.length c, .slice b ps.length d, .int .i64 cp, .int .i64 fu, .bool false] 26)
 rs : wr.heap[N]? = some (.cells #[.slice none 0 0, .slice none 0 0, .int .i64 0, .int .i64 0, .bool false] 26)
 own : OwnZ wr (M + 1) wr.heap.size (.slice a fs.length c) (.slice b ps.length d) fs ps
 val : implV fs ps cp (-1) = true
 cur : DCur wr C A B
 fr : Fr (fun g => g = C) w wr
 lo : w.heap.size ≤ N ∧ N < M ∧ C < w.heap.size
theorem DSt.lt {w wr : World} {N M C A B : Nat} {a : Option Addr} {c : Nat} {b : Option Addr} {d : Nat} {fs : List PF} {ps : List PP} {cp fu : Int} (h : DSt w wr N M C A B a c b d fs ps cp fu) : M < wr.heap.size := (Array.getElem?_eq_some_iff.1 h.hd).1
theorem DSt.drawn {w wr wr' : World} {N M C A B : Nat} {a : Option Addr} {c : Nat} {b : Option Addr} {d : Nat} {fs : List PF} {ps : List PP} {cp fu : Int} (h : DSt w wr N M C A B a c b d fs ps cp fu) (hf : Fr (fun g => g = C) wr wr') (hD : DCur wr' C A B) : DSt w wr' N M C A B a c b d fs ps cp fu := by
 have hl := h.lo
 exact ⟨box_fr h.hd hf (by omega), box_fr h.rs hf (by omega), (h.own.fr hf (fun g e => by omega)).up hf.size, h.val, hD, h.fr.trans hf, hl⟩
theorem DSt.below {w wr wr' : World} {N M C A B : Nat} {a : Option Addr} {c : Nat} {b : Option Addr} {d : Nat} {fs : List PF} {ps : List PP} {cp fu : Int} (h : DSt w wr N M C A B a c b d fs ps cp fu) (hb : Below wr.heap.size wr wr') : DSt w wr' N M C A B a c b d fs ps cp fu :=
 h.drawn (Fr.of_below hb) (h.cur.below hb)
theorem DSt.fuel {w wr : World} {N M C A B : Nat} {a : Option Addr} {c : Nat} {b : Option Addr} {d : Nat} {fs : List PF} {ps : List PP} {cp fu : Int} (h : DSt w wr N M C A B a c b d fs ps cp fu) (f : Int) : DSt w (wr.setCell ⟨M, 3, none⟩ (.int .i64 f)) N M C A B a c b d fs ps cp f := by
 have hl := h.lo
 have hlt := h.lt
 have hf := fr_setCell wr M 3 (.int .i64 f)
 have hx := heap_setCell_at h.hd 3 (.int .i64 f)
 refine ⟨by simpa using hx, box_fr h.rs hf (by omega), (h.own.fr hf (fun g e => by omega)).up hf.size, h.val, h.cur.belowN (hf.below (B := M) (by omega) (fun g e => by omega)) (by omega), h.fr.lateD hf (fun g e => by omega), hl⟩
theorem DSt.put {w wr w3 : World} {N M C A B : Nat} {a : Option Addr} {c : Nat} {b : Option Addr} {d : Nat} {fs : List PF} {ps : List PP} {cp fu : Int} {a' : Option Addr} {c' : Nat} {b' : Option Addr} {d' : Nat} {fs' : List PF} {ps' : List PP} {fu' : Int} (h : DSt w wr N M C A B a c b d fs ps cp fu) (hb : Below wr.heap.size wr w3) (hO : OwnZ w3 wr.heap.size w3.heap.size (.slice a' fs'.length c') (.slice b' ps'.length d') fs' ps') (hv : implV fs' ps' cp (-1) = true) :
  DSt w (put5C w3 M (.slice a' fs'.length c') (.slice b' ps'.length d') (.int .i64 cp) (.int .i64 fu') (.bool false)) N M C A B a' c' b' d' fs' ps' cp fu' := by
 have h3 := h.below hb
 have hl := h.lo
 have hlt := h.lt
 have hlt3 := h3.lt
 have hf := put5C_fr w3 M (.slice a' fs'.length c') (.slice b' ps'.length d') (.int .i64 cp) (.int .i64 fu') (.bool false)
 exact ⟨put5C_box h3.hd _ _ _ _ _, box_fr h3.rs hf (by omega), ((hO.lo (by omega)).fr hf (fun g e => by omega)).up hf.size, hv, h3.cur.belowN (hf.below (B := M) (by omega) (fun g e => by omega)) (by omega), h3.fr.lateD hf (fun g e => by omega), hl⟩
theorem run_fieldDisk (v0 v1 v2 v3 v4 v5 : Value) (w : World) : (Instr.field 30 (.agg #[v0, v1, v2, v3, v4, v5]) 1).run Try.prog w = .ok (.agg #[v1, v2, v3, v4, v5]) w := by
 simp [Instr.field, asAgg, go_sem]
theorem val_bounds {fs : List PF} {ps : List PP} {cp : Int} (h : implV fs ps cp (-1) = true) : fs.length ≤ 12 ∧ cp ≤ 1000 ∧ totalI fs ≤ cp ∧ cacheS cp ps fs = true ∧ ps.length ≤ 1000 ∧ (∀ j, j < fs.length → (fs.getD j (ByteArray.empty, [])).2.length ≤ 1048576) ∧ (∀ j, j < ps.length → (ps.getD j (ByteArray.empty, 0, [])).2.2.length ≤ 1048576) := by
 obtain ⟨q1, q2, q3, q4, q5⟩ := specV_parts (by rw [valid_eq]; exact h)
 obtain ⟨t1, t2, t3, t4, t5⟩ := implV_parts h
 refine ⟨q1, q2, q3, q4, t4, fun j hj => Nat.le_trans (small_of_total (by omega) j hj) (by omega), fun j hj => ?_⟩
 have h6 : ∀ (ps : List PP) (fs : List PF), pendsOk ps fs = true → ∀ p ∈ ps, p.2.2.length = 128 := by
  intro ps
  induction ps with
  | nil => intro fs _ p hp; cases hp
  | cons q r ih =>
   intro fs hc p hp
   simp only [pendsOk, pendOk, Bool.and_eq_true, beq_iff_eq] at hc
   rcases List.mem_cons.1 hp with e | e
   ·rw [e]; exact hc.1.1.2
   ·exact ih _ hc.2 p e
 have h7 := h6 ps fs (cacheI_parts t5).1 (ps[j]) (List.getElem_mem hj)
 simp only [List.getD, List.getElem?_eq_getElem hj, Option.getD_some]
 omega
end Go.Proofs.Ytakdaandbdbdnaa
