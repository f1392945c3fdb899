import Derived.Test.YtpmagndofiaooaaTfc
namespace Go.Proofs.Ytpmagndofiaooaa
open Go.RowKit
set_option linter.unusedVariables false
set_option linter.unusedSimpArgs false
set_option maxRecDepth 100000

theorem slotV_form (s : Option (ByteArray × ByteArray × Int)) : ∃ x y z, slotV s = .agg #[.string x, .string y, .int .i64 z] := by
  cases s with
  | none => exact ⟨_, _, _, rfl⟩
  | some s => exact ⟨_, _, _, rfl⟩
theorem GInner.keep {w w' : World} {P : Nat → Prop} {t : T} {L : Nat} {a : Option Addr} {n c : Nat} {us : Nat → Value} (h : GInner w P t L a n c us) (hp : ∀ b, P b → w'.heap[b]? = w.heap[b]?) : GInner w' P t L a n c us :=
  ⟨h.at', (hp L h.at').trans h.box, h.len, fun hn => by
    obtain ⟨b, e, hb, hc⟩ := h.row hn
    exact ⟨b, e, hb, fun i hi => (World.cell?_of_block (w := w) (a := ⟨b, i, none⟩) (hp b hb)).trans (hc i hi)⟩, fun i k hm hi => GIs.keep hp (fun _ h => h) k _ (h.kid i k hm hi)⟩
set_option maxHeartbeats 4000000 in
theorem innerFind_g {base : Nat} {w : World} {P : Nat → Prop} {t : T} {L : Nat} {a : Option Addr} {n c : Nat} {us : Nat → Value} (h : GInner w P t L a n c us) (hP : ∀ b, P b → b < base) (hl : t.leaf = false) (hg : ∃ r, t.good r = true) (hso : SortT t.slots) (hn : 0 < n) (hn4 : n ≤ 1000) (key : ByteArray)
    (hkO : ∀ W : World, (∀ b, P b → W.heap[b]? = w.heap[b]?) → ∀ i k, t.kids[i]? = some k → ∃ ty v, us i = .iface ty v ∧ Obs W ty v "loop.example/s02098/impl.least" (.string k.low)) (hkF : ∀ i k, t.kids[i]? = some k → ∃ ty v, us i = .iface ty v ∧ FObs base w key (lookT key k.slots) ty v) (w' : World) (hb : Below base w w') (hbs : base ≤ w'.heap.size) :
    Calls Try.prog 114 #[.pointer (some ⟨L, 0, none⟩), .string key] w' fun e w2 => FindAns (lookT key t.slots) w' e w2 := by
  obtain ⟨N, hN⟩ : ∃ N, w'.heap.size = N := ⟨_, rfl⟩
  have ab := (Below.refl w'.heap.size w').alloc (Nat.le_refl _) (.cells #[.string ⟨#[]⟩, .string ⟨#[]⟩, .int .i64 0] 86)
  have kb := heap_alloc_new w' (.cells #[.string ⟨#[]⟩, .string ⟨#[]⟩, .int .i64 0] 86)
  have z0 : (w'.alloc (.cells #[.string ⟨#[]⟩, .string ⟨#[]⟩, .int .i64 0] 86)).heap.size = N + 1 := by simp [hN]
  rw [hN] at kb
  have hb0 := hb.trans (ab.mono hbs)
  have HPW : Hid (∀ W : World, (∀ b, P b → W.heap[b]? = (w'.alloc (.cells #[.string ⟨#[]⟩, .string ⟨#[]⟩, .int .i64 0] 86)).heap[b]?) → ∀ b, P b → W.heap[b]? = w.heap[b]?) := fun W hW b hpb => (hW b hpb).trans (hb0.block b (hP b hpb))
  obtain ⟨b, e, hpb, hcc⟩ := h.row hn
  subst e
  obtain ⟨pg, hpg⟩ : ∃ pg, t.page = pg := ⟨_, rfl⟩
  have SS : Hid (∀ W : World, (∀ b, P b → W.heap[b]? = (w'.alloc (.cells #[.string ⟨#[]⟩, .string ⟨#[]⟩, .int .i64 0] 86)).heap[b]?) → (fun W : World => W.heap[L]? = some (.cells #[.int .i64 pg, .slice (some ⟨b, 0, none⟩) n c] 101) ∧ ∀ i, i < n → W.cell? ⟨b, i, none⟩ = some (us i)) W) := fun W hW => by
    have hk := HPW.out W hW
    refine ⟨by rw [← hpg]; exact (hk L h.at').trans h.box, fun i hi => (World.cell?_of_block (w := w) (a := ⟨b, i, none⟩) (hk b hpb)).trans (hcc i hi)⟩
  have HTW : Hid (Calls Try.prog 121 #[.pointer (some ⟨L, 0, none⟩), .string key] (w'.alloc (.cells #[.string ⟨#[]⟩, .string ⟨#[]⟩, .int .i64 0] 86)).drew fun e w2 => ∃ m : Nat, e = .returned (.int .i64 m) ∧ TowardIs t key m ∧ w2 = (w'.alloc (.cells #[.string ⟨#[]⟩, .string ⟨#[]⟩, .int .i64 0] 86)).drew) :=
    toward_any (w := (w'.alloc (.cells #[.string ⟨#[]⟩, .string ⟨#[]⟩, .int .i64 0] 86)).drew) (h.keep (HPW.out (w'.alloc (.cells #[.string ⟨#[]⟩, .string ⟨#[]⟩, .int .i64 0] 86)).drew (fun _ _ => rfl))) hn hn4 (hkO _ (HPW.out (w'.alloc (.cells #[.string ⟨#[]⟩, .string ⟨#[]⟩, .int .i64 0] 86)).drew (fun _ _ => rfl))) key
  have HKF : Hid (∀ i k, t.kids[i]? = some k → ∃ ty v, us i = .iface ty v ∧ FObs base w key (lookT key k.slots) ty v) := hkF
  have HN : Hid (n = t.kids.length) := h.len.1
  have HLF : Hid (t.leaf = false) := hl
  have HGG : Hid (∃ r, t.good r = true) := hg
  have HSO : Hid (SortT t.slots) := hso
  have HB0 : Hid (Below base w (w'.alloc (.cells #[.string ⟨#[]⟩, .string ⟨#[]⟩, .int .i64 0] 86))) := hb0
  have HBS : Hid (base ≤ (w'.alloc (.cells #[.string ⟨#[]⟩, .string ⟨#[]⟩, .int .i64 0] 86)).heap.size) := by show _ ≤ _; omega
  have HBW : Hid (Below w'.heap.size w' (w'.alloc (.cells #[.string ⟨#[]⟩, .string ⟨#[]⟩, .int .i64 0] 86))) := ab
  have HLT : Hid (∀ q, P q → q < (w'.alloc (.cells #[.string ⟨#[]⟩, .string ⟨#[]⟩, .int .i64 0] 86)).heap.size) := fun q hq => by have := hP q hq; omega
  have HLN : Hid (∀ q, P q → q < N) := fun q hq => by have := hP q hq; omega
  have KB : Hid ((w'.alloc (.cells #[.string ⟨#[]⟩, .string ⟨#[]⟩, .int .i64 0] 86)).heap[N]? = some (.cells #[.string ⟨#[]⟩, .string ⟨#[]⟩, .int .i64 0] 86)) := kb
  have hLl : L < (w'.alloc (.cells #[.string ⟨#[]⟩, .string ⟨#[]⟩, .int .i64 0] 86)).heap.size := HLT.out L h.at'
  clear h hkO hkF hl hg hso hb0 ab kb hb hcc HPW hpg
  go_enter Try.func114, Try.ntmps114
  go_upto_region 1 with fail
  generalize (w'.alloc (.cells #[.string ⟨#[]⟩, .string ⟨#[]⟩, .int .i64 0] 86)) = W0 at *
  have lN : N < W0.heap.size := by omega
  refine wp_region_noPanic ?_
  refine wp_region_held_drew (S := (fun W : World => W.heap[L]? = some (.cells #[.int .i64 pg, .slice (some ⟨b, 0, none⟩) n c] 101) ∧ ∀ i, i < n → W.cell? ⟨b, i, none⟩ = some (us i))) (by kernel_rfl) (SS.out W0 (fun _ _ => rfl)) (fun hHeld => ?_)
  refine wpAnyH_take (i := 0) (oi := { dst := some 6, op := Op.move (Operand.tmp 0), type := 99, pos := "l3_tree.go:424", after := #[], guard := none }) (v := .pointer (some ⟨L, 0, none⟩)) rfl (by kernel_rfl) (by kernel_rfl) (by kernel_rfl) (fun _ _ _ h => h) (Or.inl ⟨by rfl, ?_⟩) (by assumption) ?_
  · intro wq hSw; (try dsimp only at hSw); go_simp
  try simp only [Act.put, List.setIfInBounds_toArray, List.set_cons_zero, List.set_cons_succ]
  refine wpAnyH_take (i := 1) (oi := { dst := some 7, op := Op.nilCheck (Operand.tmp 6), type := 0, pos := "l3_tree.go:424", after := #[{ on := 0, ground := Ground.data }], guard := none }) (v := .pointer (some ⟨L, 0, none⟩)) rfl (by kernel_rfl) (by kernel_rfl) (by kernel_rfl) (fun _ _ _ h => h) (Or.inl ⟨by rfl, ?_⟩) (by assumption) ?_
  · intro wq hSw; (try dsimp only at hSw); go_simp
  try simp only [Act.put, List.setIfInBounds_toArray, List.set_cons_zero, List.set_cons_succ]
  refine wpAnyH_take (i := 2) (oi := { dst := some 8, op := Op.fieldAddr 101 (Operand.tmp 7) 1, type := 0, pos := "l3_tree.go:424", after := #[{ on := 1, ground := Ground.data }], guard := none }) (v := .pointer (some ⟨L, 1, none⟩)) rfl (by kernel_rfl) (by kernel_rfl) (by kernel_rfl) (fun _ _ _ h => h) (Or.inl ⟨by rfl, ?_⟩) (by assumption) ?_
  · intro wq hSw; (try dsimp only at hSw); go_simp
  try simp only [Act.put, List.setIfInBounds_toArray, List.set_cons_zero, List.set_cons_succ]
  refine wpAnyH_take (i := 3) (oi := { dst := some 9, op := Op.load 65 (Operand.tmp 8), type := 65, pos := "l3_tree.go:424", after := #[{ on := 2, ground := Ground.data }], guard := none }) (v := .slice (some ⟨b, 0, none⟩) n c) rfl (by kernel_rfl) (by kernel_rfl) (by kernel_rfl) (fun _ _ _ h => h) (Or.inl ⟨by rfl, ?_⟩) (by assumption) ?_
  · intro wq hSw; (try dsimp only at hSw); obtain ⟨q0, q1⟩ := box_twoG hSw.1; go_simp
  try simp only [Act.put, List.setIfInBounds_toArray, List.set_cons_zero, List.set_cons_succ]
  refine wpAnyH_take (i := 4) (oi := { dst := some 10, op := Op.move (Operand.tmp 0), type := 99, pos := "l3_tree.go:424", after := #[], guard := none }) (v := .pointer (some ⟨L, 0, none⟩)) rfl (by kernel_rfl) (by kernel_rfl) (by kernel_rfl) (fun _ _ _ h => h) (Or.inl ⟨by rfl, ?_⟩) (by assumption) ?_
  · intro wq hSw; (try dsimp only at hSw); go_simp
  try simp only [Act.put, List.setIfInBounds_toArray, List.set_cons_zero, List.set_cons_succ]
  refine wpAnyH_take (i := 5) (oi := { dst := some 11, op := Op.move (Operand.tmp 1), type := 9, pos := "l3_tree.go:424", after := #[], guard := none }) (v := .string key) rfl (by kernel_rfl) (by kernel_rfl) (by kernel_rfl) (fun _ _ _ h => h) (Or.inl ⟨by rfl, ?_⟩) (by assumption) ?_
  · intro wq hSw; (try dsimp only at hSw); go_simp
  try simp only [Act.put, List.setIfInBounds_toArray, List.set_cons_zero, List.set_cons_succ]
  refine wpAnyH_take (i := 9) (oi := { dst := some 15, op := Op.move (Operand.tmp 1), type := 9, pos := "l3_tree.go:424", after := #[], guard := none }) (v := .string key) rfl (by kernel_rfl) (by kernel_rfl) (by kernel_rfl) (fun _ _ _ h => h) (Or.inl ⟨by rfl, ?_⟩) (by assumption) ?_
  · intro wq hSw; (try dsimp only at hSw); go_simp
  try simp only [Act.put, List.setIfInBounds_toArray, List.set_cons_zero, List.set_cons_succ]
  refine wpAnyH_ready (rs := [6]) (by kernel_rfl) (by simp) ?_
  refine AllReadyH.cons (o := { dst := some 12, op := Op.call { callee := Callee.value (Operand.func 121), args := #[Operand.tmp 10, Operand.tmp 11], argTypes := #[99, 9] }, type := 3, pos := "l3_tree.go:424", after := #[{ on := 4, ground := Ground.data }, { on := 5, ground := Ground.data }], guard := none }) rfl (fun K hK => ?_) AllReadyH.nil
  go_simp
  refine (HTW.out).mono ?_
  rintro e w9 ⟨m, rfl, hm, rfl⟩
  go_wp2_with fail
  refine hK.out _ _ (SS.out W0.drew (fun _ _ => rfl)) (fun hHeld => ?_)
  clear hK K
  try simp only [Act.put, List.setIfInBounds_toArray, List.set_cons_zero, List.set_cons_succ]
  have hmn : m < n := by have := HN.out; have := hm.1; omega
  obtain ⟨k, hki⟩ : ∃ k, t.kids[m]? = some k := ⟨_, List.getElem?_eq_getElem hm.1⟩
  obtain ⟨ty, v, hu, ha, f9, r9, hme, hcf, hcl⟩ := HKF.out m k hki
  have HRES : Hid (lookT key t.slots = lookT key k.slots) := (look_toward HLF.out HGG.out HSO.out hm hki).1
  have hfc := hcl W0.drew HB0.out.drew (by have := HBS.out; exact this)
  obtain ⟨s, hs⟩ : ∃ s, lookT key k.slots = s := ⟨_, rfl⟩
  rw [hs] at hfc HRES
  clear hcl hs hm hki
  obtain ⟨sx, sy, sz, hsv⟩ := slotV_form s
  unfold FindAns at hfc
  rw [hsv] at hfc
  obtain ⟨sb, hsb⟩ : ∃ sb, s.isSome = sb := ⟨_, rfl⟩
  rw [hsb] at hfc
  have HV : Hid (slotV s = .agg #[.string sx, .string sy, .int .i64 sz] ∧ s.isSome = sb) := ⟨hsv, hsb⟩
  have hfc2 : Calls Try.prog f9 #[r9, .string key] W0.drew fun e w2 => e = .returned (.tuple #[.agg #[.string sx, .string sy, .int .i64 sz], .bool sb]) ∧ Below W0.drew.heap.size W0.drew w2 := hfc
  clear hfc hsv hsb
  refine wpAnyH_take (i := 7) (oi := { dst := some 13, op := Op.indexAddr 65 (Operand.tmp 9) (Operand.tmp 12), type := 0, pos := "l3_tree.go:424", after := #[{ on := 3, ground := Ground.data }, { on := 6, ground := Ground.data }], guard := none }) (v := .pointer (some ⟨b, m, none⟩)) rfl (by kernel_rfl) (by kernel_rfl) (by kernel_rfl) (fun _ _ _ h => h) (Or.inl ⟨by rfl, ?_⟩) (by assumption) ?_
  · intro wq hSw; (try dsimp only at hSw); go_simp; (try (intro hx; exfalso; omega))
  try simp only [Act.put, List.setIfInBounds_toArray, List.set_cons_zero, List.set_cons_succ]
  refine wpAnyH_take (i := 8) (oi := { dst := some 14, op := Op.load 70 (Operand.tmp 13), type := 70, pos := "l3_tree.go:424", after := #[{ on := 7, ground := Ground.data }], guard := none }) (v := .iface ty v) rfl (by kernel_rfl) (by kernel_rfl) (by kernel_rfl) (fun _ _ _ h => h) (Or.inl ⟨by rfl, ?_⟩) (by assumption) ?_
  · intro wq hSw; (try dsimp only at hSw); have q0 := hSw.2 m hmn; rw [hu] at q0; have qb := lt_of_cellG q0; go_simp
  try simp only [Act.put, List.setIfInBounds_toArray, List.set_cons_zero, List.set_cons_succ]
  refine wpAnyH_ready (rs := [10]) (by kernel_rfl) (by simp) ?_
  refine AllReadyH.cons (o := { dst := some 16, op := Op.call { callee := Callee.invoke (Operand.tmp 14) "loop.example/s02098/impl.find", args := #[Operand.tmp 15], argTypes := #[9] }, type := 87, pos := "l3_tree.go:424", after := #[{ on := 8, ground := Ground.data }, { on := 9, ground := Ground.data }, { on := 6, ground := Ground.chain }], guard := none }) rfl (fun K hK => ?_) AllReadyH.nil
  go_simp
  refine hfc2.mono ?_
  rintro e w2 ⟨rfl, hb2x⟩
  have hb2 : Below W0.heap.size W0 w2 := ((Below.refl _ W0).drew).trans hb2x
  clear hb2x hfc2
  go_wp2_with fail
  refine hK.out _ _ (SS.out w2 (fun b hb => hb2.block b (HLT.out b hb))) (fun hHeld => ?_)
  clear hK K
  try simp only [Act.put, List.setIfInBounds_toArray, List.set_cons_zero, List.set_cons_succ]
  refine wpAnyH_take (i := 11) (oi := { dst := some 17, op := Op.extract (Operand.tmp 16) 0, type := 86, pos := "l3_tree.go:424", after := #[{ on := 10, ground := Ground.data }], guard := none }) (v := .agg #[.string sx, .string sy, .int .i64 sz]) rfl (by kernel_rfl) (by kernel_rfl) (by kernel_rfl) (fun _ _ _ h => h) (Or.inl ⟨by rfl, ?_⟩) (by assumption) ?_
  · intro wq hSw; (try dsimp only at hSw); go_simp
  try simp only [Act.put, List.setIfInBounds_toArray, List.set_cons_zero, List.set_cons_succ]
  refine wpAnyH_take (i := 12) (oi := { dst := some 18, op := Op.extract (Operand.tmp 16) 1, type := 4, pos := "l3_tree.go:424", after := #[{ on := 10, ground := Ground.data }], guard := none }) (v := .bool sb) rfl (by kernel_rfl) (by kernel_rfl) (by kernel_rfl) (fun _ _ _ h => h) (Or.inl ⟨by rfl, ?_⟩) (by assumption) ?_
  · intro wq hSw; (try dsimp only at hSw); go_simp
  try simp only [Act.put, List.setIfInBounds_toArray, List.set_cons_zero, List.set_cons_succ]
  have kb1 := (hb2.block N lN).trans KB.out
  have lN1 : N < w2.heap.size := (Array.getElem?_eq_some_iff.1 kb1).1
  have ff := thawT kb1
  obtain ⟨q0, q1, q2⟩ := box_threeT kb1
  have hbox := put3G_box kb1 (.string sx) (.string sy) (.int .i64 sz)
  have hfr := put3G_fr w2 N (.string sx) (.string sy) (.int .i64 sz)
  have hbel := (HBW.out.trans (hb2.mono HBW.out.size)).trans (hfr.below (B := w'.heap.size) (Nat.le_trans HBW.out.size hb2.size) (fun g e => by omega))
  have HPB : Hid (∀ q, P q → (put3G w2 N (.string sx) (.string sy) (.int .i64 sz)).heap[q]? = W0.heap[q]?) := fun q hq => (hfr.block q (Nat.lt_of_lt_of_le (HLT.out q hq) hb2.size) (by have := HLN.out q hq; omega)).trans (hb2.block q (HLT.out q hq))
  have HBX : Hid _ := hbox
  clear hbox hfr kb1 hb2
  refine wpAnyH_ready (rs := [13]) (by kernel_rfl) (by simp) ?_
  refine AllReadyH.cons (o := { dst := none, op := Op.store 86 (Operand.tmp 4) (Operand.tmp 17), type := 0, pos := "l3_tree.go:424", after := #[{ on := 11, ground := Ground.data }, { on := 10, ground := Ground.chain }, { on := 0, ground := Ground.phase }, { on := 1, ground := Ground.phase }, { on := 2, ground := Ground.phase }, { on := 3, ground := Ground.phase }, { on := 4, ground := Ground.phase }, { on := 5, ground := Ground.phase }, { on := 6, ground := Ground.phase }, { on := 7, ground := Ground.phase }, { on := 8, ground := Ground.phase }, { on := 9, ground := Ground.phase }, { on := 10, ground := Ground.phase }, { on := 11, ground := Ground.phase }, { on := 12, ground := Ground.phase }], guard := none }) rfl (fun K hK => ?_) AllReadyH.nil
  go_simp
  clear q0 q1 q2 ff
  show K _ (put3G w2 N (.string sx) (.string sy) (.int .i64 sz))
  refine hK.out _ _ (SS.out _ HPB.out) (fun hHeld => ?_)
  clear hK K
  try simp only [Act.put, List.setIfInBounds_toArray, List.set_cons_zero, List.set_cons_succ]
  refine wpAnyH_take (i := 14) (oi := { dst := some 5, op := Op.assign (Operand.tmp 18), type := 4, pos := "l3_tree.go:424", after := #[{ on := 12, ground := Ground.data }, { on := 13, ground := Ground.chain }, { on := 0, ground := Ground.phase }, { on := 1, ground := Ground.phase }, { on := 2, ground := Ground.phase }, { on := 3, ground := Ground.phase }, { on := 4, ground := Ground.phase }, { on := 5, ground := Ground.phase }, { on := 6, ground := Ground.phase }, { on := 7, ground := Ground.phase }, { on := 8, ground := Ground.phase }, { on := 9, ground := Ground.phase }, { on := 10, ground := Ground.phase }, { on := 11, ground := Ground.phase }, { on := 12, ground := Ground.phase }, { on := 13, ground := Ground.phase }], guard := none }) (v := .bool sb) rfl (by kernel_rfl) (by kernel_rfl) (by kernel_rfl) (fun _ _ _ h => h) (Or.inl ⟨by rfl, ?_⟩) (by assumption) ?_
  · intro wq hSw; (try dsimp only at hSw); go_simp
  try simp only [Act.put, List.setIfInBounds_toArray, List.set_cons_zero, List.set_cons_succ]
  refine wpAnyH_done (by kernel_rfl) ?_ _
  refine NoPanic.normal ?_
  go_wp2_with fail
  obtain ⟨p0, p1, p2⟩ := box_threeT HBX.out
  refine bodyPost_ret (v := .tuple #[.agg #[.string sx, .string sy, .int .i64 sz], .bool sb]) (by simp [results, Try.results114, go_sem, p0, p1, p2]) rfl ?_
  exact ⟨by rw [HRES.out, HV.out.1, HV.out.2], hbel⟩
theorem GLeaf.keep {w w' : World} {P : Nat → Prop} {t : T} {L : Nat} {a : Option Addr} {n c : Nat} (h : GLeaf w P t L a n c) (hp : ∀ b, P b → w'.heap[b]? = w.heap[b]?) : GLeaf w' P t L a n c := ⟨h.at', (hp L h.at').trans h.box, h.row.keep hp (fun _ h => h), h.len⟩
theorem sort_kid {t k : T} (hl : t.leaf = false) (hs : SortT t.slots) (hk : k ∈ t.kids) : SortT k.slots := by
  have hsl : t.slots = (t.kids.map T.slots).flatten := by rw [T.slots_eq, if_neg (by simp [hl]), List.nil_append]
  rw [hsl] at hs
  unfold SortT at hs ⊢
  rw [List.pairwise_flatten] at hs
  exact hs.1 _ (List.mem_map.2 ⟨k, hk, rfl⟩)
theorem GIs.find {base : Nat} {w : World} {P : Nat → Prop} (hP : ∀ b, P b → b < base) (key : ByteArray) : ∀ (t : T) (ty : TypeId) (v : Value), t.nodes ≤ 100000 → (∃ r, t.good r = true) → 0 ≤ t.ht → Shape t → SortT t.slots → GIs w P t (.iface ty v) → FObs base w key (lookT key t.slots) ty v := by
  intro t
  induction t using T.ind with
  | h t ih =>
    rintro ty v hn ⟨r, hg⟩ hh hsh hso h
    have hsz4 : t.size ≤ 4 := by
      have h9 := hg
      rw [T.good_eq] at h9
      simp only [Bool.and_eq_true, decide_eq_true_eq] at h9
      exact h9.1.1.1.1.2
    rw [shape_eq] at hsh
    cases hl : t.leaf
    · obtain ⟨L, a, n, c, us, e, hG⟩ := h.inner hl
      cases e
      have hsz : t.size = n := by rw [hG.len.1]; simp [T.size, hl]
      have h2 : 0 < n := by
        have h9 := hg
        rw [T.good_eq] at h9
        simp only [Bool.and_eq_true, decide_eq_true_eq, hl, Bool.and_false, hsz] at h9
        have := h9.1.1.1.1.1
        simp at this
        omega
      obtain ⟨k0, ks, hk0⟩ : ∃ k ks, t.kids = k :: ks := List.exists_cons_of_ne_nil (by intro e; have := hG.len.1; rw [e] at this; simp at this; omega)
      obtain ⟨f1, f2⟩ := ht_first hl hk0 hh
      refine ⟨fun w => by kernel_rfl, 114, .pointer (some ⟨L, 0, none⟩), fun w => by kernel_rfl, fun w => by kernel_rfl, fun w' hb hbs => ?_⟩
      refine innerFind_g hG hP hl ⟨r, hg⟩ hso h2 (by omega) key (fun W hW i k hi => ?_) (fun i k hi => ?_) w' hb hbs
      · have hkm : k ∈ t.kids := List.mem_of_getElem? hi
        have hK := GIs.keep hW (fun _ h => h) k _ (hG.kid i k hkm hi)
        obtain ⟨ty', v', hu⟩ := hK.shape
        rw [hu] at hK
        have hlt := nodesG_kid hkm
        have hgk := goodG_kid hg hkm
        have hks : 0 < k.size := by
          have h9 := hgk
          rw [T.good_eq] at h9
          simp only [Bool.and_eq_true, decide_eq_true_eq] at h9
          have := h9.1.1.1.1.1
          simp at this
          omega
        exact ⟨ty', v', hu, (GIs.obj k ty' v' (by omega) ⟨false, hgk⟩ (f2 k hkm).1 hK).least hks⟩
      · have hkm : k ∈ t.kids := List.mem_of_getElem? hi
        have hK := hG.kid i k hkm hi
        obtain ⟨ty', v', hu⟩ := hK.shape
        rw [hu] at hK
        have hlt := nodesG_kid hkm
        exact ⟨ty', v', hu, ih k hkm ty' v' (by omega) ⟨false, goodG_kid hg hkm⟩ (f2 k hkm).1 (hsh.2 k hkm) (sort_kid hl hso hkm) hK⟩
    · obtain ⟨L, a, n, c, e, hG⟩ := h.leaf hl
      cases e
      have hsz : t.size = n := by rw [hG.len]; simp [T.size, hl]
      have hsl : t.slots = t.keys.zip (t.vals.zip t.over) := by rw [T.slots_eq, if_pos hl, hsh.1 hl]; simp
      rw [hsl] at hso ⊢
      refine ⟨fun w => by kernel_rfl, 99, .pointer (some ⟨L, 0, none⟩), fun w => by kernel_rfl, fun w => by kernel_rfl, fun w' hb hbs => ?_⟩
      exact leafFind_any (hG.keep (fun b hpb => hb.block b (hP b hpb))) hso (by omega) key
/-- What a look for a key answers. -/
def valT : Option (ByteArray × ByteArray × Int) → ByteArray
  | some s => s.2.1
  | none => ByteArray.empty
def GetAns (s : Option (ByteArray × ByteArray × Int)) (w : World) (e : Ending) (w' : World) : Prop := e = .returned (.agg #[.bool s.isSome, .string (valT s)]) ∧ Below w.heap.size w w'
def implGet (ts : List TN) (key : ByteArray) (s : Option (ByteArray × ByteArray × Int)) : Prop := (¬ ImplOk ts → s = none) ∧ (ImplOk ts → ∃ t met, gr ts (ts.length + 1) 0 (fun _ => false) = some (t, ts.length, met) ∧ s = lookT key t.slots)
def specGet (ts : List TN) (key : ByteArray) (s : Option (ByteArray × ByteArray × Int)) : Prop := (¬ SpecOk ts → s = none) ∧ (SpecOk ts → s = lookT key (rd ts (ts.length + 1) 0).1.slots)
theorem get_eq {ts : List TN} {key : ByteArray} {s u : Option (ByteArray × ByteArray × Int)} (h1 : specGet ts key s) (h2 : implGet ts key u) : u = s := by
  by_cases h : ImplOk ts
  · obtain ⟨t, met, e, e2⟩ := h2.2 h
    rw [e2, h1.2 ((valid_iff ts).2 h)]
    obtain ⟨a1, _⟩ := gr_some ts _ 0 _ _ _ _ (Nat.zero_le _) e
    rw [a1]
  · rw [h2.1 h, h1.1 (fun h3 => h ((valid_iff ts).1 h3))]
theorem slotV_val (s : Option (ByteArray × ByteArray × Int)) : ∃ x z, slotV s = .agg #[.string x, .string (valT s), .int .i64 z] := by
  cases s with
  | none => exact ⟨_, _, rfl⟩
  | some s => exact ⟨_, _, rfl⟩
def put2G (w : World) (N : Nat) (u0 u1 : Value) : World := (w.setCell ⟨N, 0, none⟩ u0).setCell ⟨N, 1, none⟩ u1
theorem put2G_box {w : World} {N t : Nat} {v0 v1 : Value} (h : w.heap[N]? = some (.cells #[v0, v1] t)) (u0 u1 : Value) : (put2G w N u0 u1).heap[N]? = some (.cells #[u0, u1] t) := by
  have h1 := heap_setT (heap_setT h 0 u0) 1 u1
  unfold put2G
  simpa using h1
theorem put2G_fr (w : World) (N : Nat) (u0 u1 : Value) : Fr (fun x => x = N) w (put2G w N u0 u1) := (fr_setT w N 0 u0).trans (fr_setT _ N 1 u1)
set_option maxHeartbeats 2000000 in
theorem implGet_any (ts : List TN) (key : ByteArray) (a : Option Addr) (n c A B : Nat) (w : World) (hB : B ≤ w.heap.size) (hT : NodesAt w A B a n c ts) :
    Calls Try.prog 21 #[.agg #[.slice a n c], .string key] w fun e w' => ∃ s, implGet ts key s ∧ GetAns s w e w' := by
  obtain ⟨N, hN⟩ : ∃ N, w.heap.size = N := ⟨_, rfl⟩
  have b0 := (Below.refl w.heap.size w).alloc (Nat.le_refl _) (.cells #[.slice a n c] 26)
  have b1 := (Below.refl (w.alloc (.cells #[.slice a n c] 26)).heap.size _).alloc (Nat.le_refl _) (.cells #[.bool false, .string ⟨#[]⟩] 43)
  have k1 := heap_alloc_new (w.alloc (.cells #[.slice a n c] 26)) (.cells #[.bool false, .string ⟨#[]⟩] 43)
  have z0 : (w.alloc (.cells #[.slice a n c] 26)).heap.size = N + 1 := by simp [hN]
  have z1 : ((w.alloc (.cells #[.slice a n c] 26)).alloc (.cells #[.bool false, .string ⟨#[]⟩] 43)).heap.size = N + 2 := by simp [hN]
  have kt := (b1.block N (by omega)).trans (hN ▸ heap_alloc_new w (.cells #[.slice a n c] 26))
  rw [z0] at k1
  have bw := b0.trans (b1.mono (by omega))
  have hcall := grow_any ts a n c A B _ (by rw [z1]; omega) (hT.below (bw.mono hB))
  have x0 := cell_one_at kt
  clear hT
  go_enter Try.func21, Try.ntmps21
  go_upto_region 1 with fail
  generalize (w.alloc (.cells #[.slice a n c] 26)).alloc (.cells #[.bool false, .string ⟨#[]⟩] 43) = W1 at *
  have l1 : N < W1.heap.size := by omega
  go_wp2_with fail
  refine hcall.mono ?_
  rintro e w2 ⟨hno, hyes, hb⟩
  have bw2 := bw.trans (hb.mono (by omega))
  have k2 := (hb.block (N + 1) (by omega)).trans k1
  have s2 := hb.size
  have l2 : N + 1 < w2.heap.size := by omega
  clear hcall x0 kt k1
  by_cases h : ImplOk ts
  · obtain ⟨t, met, u, hgr, hky, hasc, rfl, hGI⟩ := hyes h
    obtain ⟨ty, v, rfl⟩ := hGI.shape
    obtain ⟨gs1, gs2, gs3, gs4, gs5, gs6, gs7, gs8⟩ := gr_some ts _ 0 _ t _ _ (Nat.zero_le _) hgr
    have HOK : Hid (ImplOk ts ∧ gr ts (ts.length + 1) 0 (fun _ => false) = some (t, ts.length, met)) := ⟨h, hgr⟩
    have hn3 := h.1
    obtain ⟨ha, f9, r9, hme, hcf, hcl⟩ := GIs.find (base := w2.heap.size) (P := fun b => W1.heap.size ≤ b ∧ b < w2.heap.size) (fun b hb => hb.2) key t ty v (by have := gs4.1; omega) ⟨true, gs5⟩ gs6 gs3 (sort_of_asc hasc) (GM.see _ _ _ hGI)
    have hc2 := hcl w2 (Below.refl _ w2) (Nat.le_refl _)
    obtain ⟨s, hs⟩ : ∃ s, lookT key t.slots = s := ⟨_, rfl⟩
    have HS : Hid (lookT key t.slots = s) := hs
    rw [hs] at hc2
    unfold FindAns at hc2
    obtain ⟨sx, sz, hsv⟩ := slotV_val s
    rw [hsv] at hc2
    obtain ⟨sb, hsb⟩ : ∃ sb, s.isSome = sb := ⟨_, rfl⟩
    obtain ⟨sy, hsy⟩ : ∃ sy, valT s = sy := ⟨_, rfl⟩
    rw [hsb, hsy] at hc2
    have HV : Hid (s.isSome = sb ∧ valT s = sy) := ⟨hsb, hsy⟩
    have hc3 : Calls Try.prog f9 #[r9, .string key] w2 fun e w3 => e = .returned (.tuple #[.agg #[.string sx, .string sy, .int .i64 sz], .bool sb]) ∧ Below w2.heap.size w2 w3 := hc2
    clear hno hyes h hgr hky hasc hGI gs1 gs2 gs3 gs4 gs5 gs6 gs7 gs8 hcl hc2 hs hsv hsb hsy hn3
    go_wp2_with fail
    refine hc3.mono ?_
    rintro e w3 ⟨rfl, hb3⟩
    have ab := (Below.refl w3.heap.size w3).alloc (Nat.le_refl _) (.cells #[.string sx, .string sy, .int .i64 sz] 86)
    have kS := heap_alloc_new w3 (.cells #[.string sx, .string sy, .int .i64 sz] 86)
    have k4 := (ab.block (N + 1) (by have := hb3.size; omega)).trans ((hb3.block (N + 1) l2).trans k2)
    have bw4 := (bw2.trans (hb3.mono (by omega))).trans (ab.mono (by have := hb3.size; omega))
    have l4 := (Array.getElem?_eq_some_iff.1 k4).1
    have lS := (Array.getElem?_eq_some_iff.1 kS).1
    obtain ⟨q0, q1, q2⟩ := box_threeT kS
    obtain ⟨p0, p1⟩ := box_twoG k4
    have ff := thawT k4
    have hbox := put2G_box k4 (.bool sb) (.string sy)
    have hfr := put2G_fr (w3.alloc (.cells #[.string sx, .string sy, .int .i64 sz] 86)) (N + 1) (.bool sb) (.string sy)
    have hbel := bw4.trans (hfr.below (B := w.heap.size) bw4.size (fun g e => by omega))
    clear hc3 hb3 k2 hfr
    go_wp2_with fail
    show bodyPost _ _ _ _ _ (put2G (w3.alloc (.cells #[.string sx, .string sy, .int .i64 sz] 86)) (N + 1) (.bool sb) (.string sy))
    obtain ⟨v0, v1⟩ := box_twoG hbox
    refine bodyPost_ret (v := .agg #[.bool sb, .string sy]) (by simp [results, Try.results21, go_sem, v0, v1]) rfl ?_
    exact ⟨s, ⟨fun h => absurd HOK.out.1 h, fun _ => ⟨t, met, HOK.out.2, HS.out.symm⟩⟩, by rw [HV.out.1, HV.out.2], hbel⟩
  · obtain rfl := hno h
    have HNO : Hid (¬ ImplOk ts) := h
    obtain ⟨p0, p1⟩ := box_twoG k2
    have ff := thawT k2
    have hbox := put2G_box k2 (.bool false) (.string ⟨#[]⟩)
    have hfr := put2G_fr w2 (N + 1) (.bool false) (.string ⟨#[]⟩)
    have hbel := bw2.trans (hfr.below (B := w.heap.size) bw2.size (fun g e => by omega))
    clear hno hyes h hb hfr
    go_wp2_with fail
    show bodyPost _ _ _ _ _ (put2G w2 (N + 1) (.bool false) (.string ⟨#[]⟩))
    obtain ⟨v0, v1⟩ := box_twoG hbox
    refine bodyPost_ret (v := .agg #[.bool false, .string ⟨#[]⟩]) (by simp [results, Try.results21, go_sem, v0, v1]) rfl ?_
    exact ⟨none, ⟨fun _ => rfl, fun h => absurd h HNO.out⟩, rfl, hbel⟩
end Go.Proofs.Ytpmagndofiaooaa
