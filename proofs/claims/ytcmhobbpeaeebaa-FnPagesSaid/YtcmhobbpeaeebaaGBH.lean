import Derived.Test.YtcmhobbpeaeebaaGBF
import Derived.Test.YtcmhobbpeaeebaaGBG
namespace Go.Proofs.Ytcmhobbpeaeebaa
namespace Old
open Go.RowKit
set_option linter.unusedVariables false
set_option maxRecDepth 100000

/-- What the specification reads of a meta page. -/
def sMeta (L : List Int) : Option Nat × Int × Int × Int := ((sTake L (some 0) 10).1, numOf true (((sTake L (some 0) 10).2.drop 6).take 4), numOf true (((sTake L (some 0) 10).2.drop 0).take 2), numOf true (((sTake L (some 0) 10).2.drop 2).take 4))
set_option maxHeartbeats 3200000 in
theorem l2ReadBody_meta (L : List Int) (n : Int) (a : Option Addr) (c : Nat) (w : World) (A B : Nat) (hB : BytesAt w A B a L.length c L) (hBw : B ≤ w.heap.size) :
    Calls Try.prog 49 #[.int .i64 1, .int .i64 n, .slice a L.length c, .agg #[.bool true, .int .i64 (smallN true), .bool true]] w fun e w' => e = .returned (.tuple #[.agg #[.int .i64 1, .int .i64 0, .int .i64 (sMeta L).2.1, .int .i64 (sMeta L).2.2.1, .int .i64 (sMeta L).2.2.2, .slice none 0 0, .slice none 0 0, .int .i64 0, .string ⟨#[]⟩], .bool (sMeta L).1.isSome]) ∧ Below w.heap.size w w' := by
  go_enter Try.func49, Try.ntmps49
  go_wp2_with fail
  have st0 := bs_start 1 L a c w A B hB hBw
  generalize (((((w.alloc (.cells #[.bool true, .int .i64 (smallN true), .bool true] 63)).alloc (.cells #[.int .i64 0, .int .i64 0, .int .i64 0, .int .i64 0, .int .i64 0, .slice none 0 0, .slice none 0 0, .int .i64 0, .string ⟨#[]⟩] 28)).alloc (.cells #[.int .i64 1, .int .i64 0, .int .i64 0, .int .i64 0, .int .i64 0, .slice none 0 0, .slice none 0 0, .int .i64 0, .string ⟨#[]⟩] 28)).alloc (.cells #[.slice a L.length c, .bool false] 119)).alloc (.cells #[] 5)) = w0 at st0 ⊢
  refine (l2Take_any L (some 0) 10 (by omega) a L.length c false w0 A B st0.src (by have := st0.low; have := st0.lt; omega)).mono ?_
  rintro e v1 ⟨ta1, tn1, tc1, bad1, a1, c1, rfl, hs1, hx1, hb1⟩
  have su1 := st0.call hb1
  have hl1 := st0.lt
  obtain ⟨x0, x1⟩ := box_two2 su1.sb
  have fx := box_frozen su1.sb
  have st1 := su1.sput hs1
  have hy1 := (hx1.set ⟨w.heap.size + 1 + 1 + 1, 0, none⟩ (.slice ta1 tn1 tc1) (by show B ≤ w.heap.size + 1 + 1 + 1; omega) (by show w.heap.size + 1 + 1 + 1 < _; omega)).set ⟨w.heap.size + 1 + 1 + 1, 1, none⟩ (.bool bad1) (by show B ≤ w.heap.size + 1 + 1 + 1; omega) (by show w.heap.size + 1 + 1 + 1 < _; omega)
  have hlen1 := sTake_len L (some 0) 10
  generalize hq : (sTake L (some 0) 10).1 = s1 at st1
  have HS1 : Hid ((sTake L (some 0) 10).1 = s1) := hq
  clear hq
  generalize hq : (sTake L (some 0) 10).2 = l1 at hy1 hlen1
  have HL1 : Hid ((sTake L (some 0) 10).2 = l1) := hq
  clear hq su1 hx1 hs1 hb1 st0
  obtain ⟨p0, p1⟩ := box_two2 st1.sb
  obtain ⟨g0, g1, g2⟩ := box_form st1.fb
  obtain ⟨r5, r6, r0, r2, r3, r4, r7, r8, r1⟩ := box_slice st1.pb
  have fe := box_frozen st1.pb
  obtain ⟨A1, B1, hB1⟩ := hy1.ex
  obtain ⟨b1, o1, rfl, _, _⟩ := hB1.2.2.2.2.1 (by omega)
  have hcc : 10 ≤ c1 := hB1.2.1
  have hcm := hB1.2.2.1
  unfold maxLen at hcm
  have ib2 : (2 : Int) ≤ (c1 : Int) := by omega
  have nb2 : ¬ (c1 : Int) < 2 := by omega
  have ib6 : (6 : Int) ≤ (c1 : Int) := by omega
  have nb6 : ¬ (c1 : Int) < 6 := by omega
  have ib10 : (10 : Int) ≤ (c1 : Int) := by omega
  have nb10 : ¬ (c1 : Int) < 10 := by omega
  have ec2 : ¬ c1 = 2 := by omega
  have ec6 : ¬ c1 = 6 := by omega
  have hP0 := bytesAt_sub hB1 0 2 (by omega) (by omega)
  have hP1 := bytesAt_sub hB1 2 4 (by omega) (by omega)
  have hP2 := bytesAt_sub hB1 6 4 (by omega) (by omega)
  go_wp2_with fail
  generalize (v1.setCell ⟨w.heap.size + 1 + 1 + 1, 0, none⟩ (.slice ta1 tn1 tc1)).setCell ⟨w.heap.size + 1 + 1 + 1, 1, none⟩ (.bool bad1) = w2 at st1 hy1 hB1 hP0 hP1 hP2 p0 p1 g0 g1 g2 r0 r1 r2 r3 r4 r5 r6 r7 r8 fe ⊢
  have K0 := l2Get_high (some ⟨b1, o1, none⟩) 2 c1 (by omega) ((l1.drop 0).take 2) w2.drew A1 B1 hP0
  generalize hq : numOf true ((l1.drop 0).take 2) = rt at K0
  have HRTq : Hid (numOf true ((l1.drop 0).take 2) = rt) := hq
  clear hq
  have K1 := l2Get_high (some ⟨b1, o1 + 2, none⟩) 4 (c1 - 2) (by omega) ((l1.drop 2).take 4) w2.drew A1 B1 hP1
  generalize hq : numOf true ((l1.drop 2).take 4) = ct at K1
  have HCTq : Hid (numOf true ((l1.drop 2).take 4) = ct) := hq
  clear hq
  have K2 := l2Get_high (some ⟨b1, o1 + 6, none⟩) 4 (c1 - 6) (by omega) ((l1.drop 6).take 4) w2.drew A1 B1 hP2
  generalize hq : numOf true ((l1.drop 6).take 4) = id at K2
  have HIDq : Hid (numOf true ((l1.drop 6).take 4) = id) := hq
  clear hq
  go_region_held3 (fun _ => True) (trivial)
    (first
    | (have _ := mk1; go_at_call 68; refine K2.mono ?_; rintro e u2 ⟨rfl, rfl⟩; have mk2 : True := trivial)
    | (have _ := mk0; go_at_call 68; refine K1.mono ?_; rintro e u1 ⟨rfl, rfl⟩; have mk1 : True := trivial)
    | (go_at_call 68; refine K0.mono ?_; rintro e u0 ⟨rfl, rfl⟩; have mk0 : True := trivial))
  all_goals
    have st2 := (((st1.pput 2 (.int .i64 id) (.int .i64 1) (.int .i64 0) (.int .i64 id) (.int .i64 0) (.int .i64 0) (.slice none 0 0) (.slice none 0 0) (.int .i64 0) (.string ⟨#[]⟩) rfl).pput 3 (.int .i64 rt) (.int .i64 1) (.int .i64 0) (.int .i64 id) (.int .i64 rt) (.int .i64 0) (.slice none 0 0) (.slice none 0 0) (.int .i64 0) (.string ⟨#[]⟩) rfl).pput 4 (.int .i64 ct) (.int .i64 1) (.int .i64 0) (.int .i64 id) (.int .i64 rt) (.int .i64 ct) (.slice none 0 0) (.slice none 0 0) (.int .i64 0) (.string ⟨#[]⟩) rfl).drew
    clear K0 K1 K2 hP0 hP1 hP2 hB1 hy1 st1
    go_wp2_with fail
    clear x0 x1 fx p0 p1 g0 g1 g2 r0 r1 r2 r3 r4 r5 r6 r7 r8 fe
    generalize (((w2.setCell ⟨w.heap.size + 1 + 1, 2, none⟩ (.int .i64 id)).setCell ⟨w.heap.size + 1 + 1, 3, none⟩ (.int .i64 rt)).setCell ⟨w.heap.size + 1 + 1, 4, none⟩ (.int .i64 ct)).drew = w3 at st2 ⊢
    have HE : Hid (sMeta L = (s1, id, rt, ct)) := by
      show _ = _
      simp only [sMeta, HS1.out, HL1.out, HIDq.out, HRTq.out, HCTq.out]
    obtain ⟨p0, p1⟩ := box_two2 st2.sb
    obtain ⟨r5, r6, r0, r2, r3, r4, r7, r8, r1⟩ := box_slice st2.pb
    have fr := box_frozen st2.rb
    obtain ⟨y5, y6, y0, y2, y3, y4, y7, y8, y1⟩ := box_slice st2.rb
    go_region_held3 (fun w' => w'.cell? ⟨w.heap.size + 1 + 1 + 1, 1, none⟩ = some (.bool bad1) ∧ w'.cell? ⟨w.heap.size + 1 + 1, 0, none⟩ = some (.int .i64 1) ∧ w'.cell? ⟨w.heap.size + 1 + 1, 1, none⟩ = some (.int .i64 0) ∧ w'.cell? ⟨w.heap.size + 1 + 1, 2, none⟩ = some (.int .i64 id) ∧ w'.cell? ⟨w.heap.size + 1 + 1, 3, none⟩ = some (.int .i64 rt) ∧ w'.cell? ⟨w.heap.size + 1 + 1, 4, none⟩ = some (.int .i64 ct) ∧ w'.cell? ⟨w.heap.size + 1 + 1, 5, none⟩ = some (.slice none 0 0) ∧ w'.cell? ⟨w.heap.size + 1 + 1, 6, none⟩ = some (.slice none 0 0) ∧ w'.cell? ⟨w.heap.size + 1 + 1, 7, none⟩ = some (.int .i64 0) ∧ w'.cell? ⟨w.heap.size + 1 + 1, 8, none⟩ = some (.string ⟨#[]⟩)) (go_keep) (fail)
    all_goals
      go_wp2
      show bodyPost _ _ _ _ _ (put9 w3 (w.heap.size + 1) (.int .i64 1) (.int .i64 0) (.int .i64 id) (.int .i64 rt) (.int .i64 ct) (.slice none 0 0) (.slice none 0 0) (.int .i64 0) (.string ⟨#[]⟩)).drew
      clear r0 r1 r2 r3 r4 r5 r6 r7 r8 y0 y1 y2 y3 y4 y5 y6 y7 y8
      obtain ⟨r5, r6, r0, r2, r3, r4, r7, r8, r1⟩ := box_slice (w := (put9 w3 (w.heap.size + 1) (.int .i64 1) (.int .i64 0) (.int .i64 id) (.int .i64 rt) (.int .i64 ct) (.slice none 0 0) (.slice none 0 0) (.int .i64 0) (.string ⟨#[]⟩)).drew) (N := w.heap.size + 1) ((drew_heap _ _).trans (put9_box st2.rb (.int .i64 1) (.int .i64 0) (.int .i64 id) (.int .i64 rt) (.int .i64 ct) (.slice none 0 0) (.slice none 0 0) (.int .i64 0) (.string ⟨#[]⟩)))
      have hbe : Below w.heap.size w (put9 w3 (w.heap.size + 1) (.int .i64 1) (.int .i64 0) (.int .i64 id) (.int .i64 rt) (.int .i64 ct) (.slice none 0 0) (.slice none 0 0) (.int .i64 0) (.string ⟨#[]⟩)).drew := (st2.bel.trans ((put9_fr w3 (w.heap.size + 1) (.int .i64 1) (.int .i64 0) (.int .i64 id) (.int .i64 rt) (.int .i64 ct) (.slice none 0 0) (.slice none 0 0) (.int .i64 0) (.string ⟨#[]⟩)).below st2.bel.size (fun g e => by omega))).drew
      have hbd := SrcAt.badly st2.src
      refine bodyPost_ret (v := .tuple #[.agg #[.int .i64 1, .int .i64 0, .int .i64 id, .int .i64 rt, .int .i64 ct, .slice none 0 0, .slice none 0 0, .int .i64 0, .string ⟨#[]⟩], .bool (!bad1)]) (by simp [results, Try.results49, go_sem, r0, r1, r2, r3, r4, r5, r6, r7, r8]) rfl ?_
      rw [HE.out, hbd]
      exact ⟨rfl, hbe⟩
end Old
end Go.Proofs.Ytcmhobbpeaeebaa
namespace Go.Proofs.Ytcmhobbpeaeebaa
namespace Old
open Go.RowKit
set_option linter.unusedVariables false
set_option maxRecDepth 100000

set_option maxHeartbeats 1600000 in
theorem l2ReadBody_none (kind : Int) (k1 : kind ≠ 1) (k2 : kind ≠ 2) (k3 : kind ≠ 3) (k4 : kind ≠ 4) (L : List Int) (n : Int) (a : Option Addr) (c : Nat) (w : World) (A B : Nat) (hB : BytesAt w A B a L.length c L) (hBw : B ≤ w.heap.size) :
    Calls Try.prog 49 #[.int .i64 kind, .int .i64 n, .slice a L.length c, .agg #[.bool true, .int .i64 (smallN true), .bool true]] w fun e w' => e = .returned (.tuple #[.agg #[.int .i64 kind, .int .i64 0, .int .i64 0, .int .i64 0, .int .i64 0, .slice none 0 0, .slice none 0 0, .int .i64 0, .string ⟨#[]⟩], .bool true]) ∧ Below w.heap.size w w' := by
  have q1 : (kind == 1) = false := by simpa using k1
  have q2 : (kind == 2) = false := by simpa using k2
  have q3 : (kind == 3) = false := by simpa using k3
  have q4 : (kind == 4) = false := by simpa using k4
  go_enter Try.func49, Try.ntmps49
  go_wp2_with fail
  have st0 := bs_start kind L a c w A B hB hBw
  generalize (((((w.alloc (.cells #[.bool true, .int .i64 (smallN true), .bool true] 63)).alloc (.cells #[.int .i64 0, .int .i64 0, .int .i64 0, .int .i64 0, .int .i64 0, .slice none 0 0, .slice none 0 0, .int .i64 0, .string ⟨#[]⟩] 28)).alloc (.cells #[.int .i64 kind, .int .i64 0, .int .i64 0, .int .i64 0, .int .i64 0, .slice none 0 0, .slice none 0 0, .int .i64 0, .string ⟨#[]⟩] 28)).alloc (.cells #[.slice a L.length c, .bool false] 119)).alloc (.cells #[] 5)) = w0 at st0 ⊢
  obtain ⟨p0, p1⟩ := box_two2 st0.sb
  obtain ⟨r5, r6, r0, r2, r3, r4, r7, r8, r1⟩ := box_slice st0.pb
  have fr := box_frozen st0.rb
  obtain ⟨y5, y6, y0, y2, y3, y4, y7, y8, y1⟩ := box_slice st0.rb
  go_region_held3 (fun w' => w'.cell? ⟨w.heap.size + 1 + 1 + 1, 1, none⟩ = some (.bool false) ∧ w'.cell? ⟨w.heap.size + 1 + 1, 0, none⟩ = some (.int .i64 kind) ∧ w'.cell? ⟨w.heap.size + 1 + 1, 1, none⟩ = some (.int .i64 0) ∧ w'.cell? ⟨w.heap.size + 1 + 1, 2, none⟩ = some (.int .i64 0) ∧ w'.cell? ⟨w.heap.size + 1 + 1, 3, none⟩ = some (.int .i64 0) ∧ w'.cell? ⟨w.heap.size + 1 + 1, 4, none⟩ = some (.int .i64 0) ∧ w'.cell? ⟨w.heap.size + 1 + 1, 5, none⟩ = some (.slice none 0 0) ∧ w'.cell? ⟨w.heap.size + 1 + 1, 6, none⟩ = some (.slice none 0 0) ∧ w'.cell? ⟨w.heap.size + 1 + 1, 7, none⟩ = some (.int .i64 0) ∧ w'.cell? ⟨w.heap.size + 1 + 1, 8, none⟩ = some (.string ⟨#[]⟩)) (go_keep) (fail)
  all_goals
    go_wp2
    show bodyPost _ _ _ _ _ (put9 w0 (w.heap.size + 1) (.int .i64 kind) (.int .i64 0) (.int .i64 0) (.int .i64 0) (.int .i64 0) (.slice none 0 0) (.slice none 0 0) (.int .i64 0) (.string ⟨#[]⟩)).drew
    clear r0 r1 r2 r3 r4 r5 r6 r7 r8 y0 y1 y2 y3 y4 y5 y6 y7 y8
    obtain ⟨r5, r6, r0, r2, r3, r4, r7, r8, r1⟩ := box_slice (w := (put9 w0 (w.heap.size + 1) (.int .i64 kind) (.int .i64 0) (.int .i64 0) (.int .i64 0) (.int .i64 0) (.slice none 0 0) (.slice none 0 0) (.int .i64 0) (.string ⟨#[]⟩)).drew) (N := w.heap.size + 1) ((drew_heap _ _).trans (put9_box st0.rb (.int .i64 kind) (.int .i64 0) (.int .i64 0) (.int .i64 0) (.int .i64 0) (.slice none 0 0) (.slice none 0 0) (.int .i64 0) (.string ⟨#[]⟩)))
    have hbe : Below w.heap.size w (put9 w0 (w.heap.size + 1) (.int .i64 kind) (.int .i64 0) (.int .i64 0) (.int .i64 0) (.int .i64 0) (.slice none 0 0) (.slice none 0 0) (.int .i64 0) (.string ⟨#[]⟩)).drew := (st0.bel.trans ((put9_fr w0 (w.heap.size + 1) (.int .i64 kind) (.int .i64 0) (.int .i64 0) (.int .i64 0) (.int .i64 0) (.slice none 0 0) (.slice none 0 0) (.int .i64 0) (.string ⟨#[]⟩)).below st0.bel.size (fun g e => by omega))).drew
    have hbd := SrcAt.badly st0.src
    refine bodyPost_ret (v := .tuple #[.agg #[.int .i64 kind, .int .i64 0, .int .i64 0, .int .i64 0, .int .i64 0, .slice none 0 0, .slice none 0 0, .int .i64 0, .string ⟨#[]⟩], .bool true]) (by simp [results, Try.results49, go_sem, r0, r1, r2, r3, r4, r5, r6, r7, r8]) rfl ?_
    exact ⟨rfl, hbe⟩

/-- The page that the specification reads, and whether its bytes sufficed. -/
def sRead (L : List Int) (kind : Int) (n : Nat) : Pg × Bool :=
  if kind = 1 then (⟨1, 0, (sMeta L).2.1, (sMeta L).2.2.1, (sMeta L).2.2.2, [], [], 0, ⟨#[]⟩⟩, (sMeta L).1.isSome)
  else if kind = 2 then (⟨2, 0, 0, 0, 0, (sKids L n).2, [], 0, ⟨#[]⟩⟩, (sKids L n).1.isSome)
  else if kind = 3 then (⟨3, 0, 0, 0, 0, [], (sEnts L n).2, 0, ⟨#[]⟩⟩, (sEnts L n).1.isSome)
  else if kind = 4 then (⟨4, 0, 0, 0, 0, [], [], (sOver L).2.1, (sOver L).2.2⟩, (sOver L).1.isSome)
  else (⟨kind, 0, 0, 0, 0, [], [], 0, ⟨#[]⟩⟩, true)
theorem sKids_len (L : List Int) : ∀ n, (sKids L n).2.length = n
  | 0 => rfl
  | n + 1 => by rw [sKids]; simp [sKids_len L n]
theorem sEnts_len (L : List Int) : ∀ n, (sEnts L n).2.length = n
  | 0 => rfl
  | n + 1 => by rw [sEnts]; simp [sEnts_len L n]
theorem l2ReadBody_any (kind : Int) (L : List Int) (n : Nat) (hn : n ≤ 255) (a : Option Addr) (c : Nat) (w : World) (A B : Nat) (hB : BytesAt w A B a L.length c L) (hBw : B ≤ w.heap.size) :
    Calls Try.prog 49 #[.int .i64 kind, .int .i64 n, .slice a L.length c, .agg #[.bool true, .int .i64 (smallN true), .bool true]] w fun e w' => ∃ v, e = .returned (.tuple #[v, .bool (sRead L kind n).2]) ∧ PgVal w' w.heap.size (sRead L kind n).1 v ∧ Below w.heap.size w w' := by
  by_cases h1 : kind = 1
  · subst h1
    refine (l2ReadBody_meta L n a c w A B hB hBw).mono ?_
    rintro e w' ⟨rfl, hb⟩
    rw [sRead, if_pos rfl]
    exact ⟨_, rfl, ⟨_, _, rfl, World.ownsRow_nil _ _ _ _, World.ownsRow_nil _ _ _ _, .inl rfl⟩, hb⟩
  by_cases h2 : kind = 2
  · subst h2
    refine (l2ReadBody_branch L n hn a c w A B hB hBw).mono ?_
    rintro e w' ⟨va, vc, rfl, ho, hb⟩
    rw [sRead, if_neg (by decide), if_pos rfl]
    refine ⟨_, rfl, ⟨_, _, rfl, ?_, World.ownsRow_nil _ _ _ _, .inr rfl⟩, hb⟩
    show World.ownsRow _ _ _ _ _ (sKids L n).2.length (rowsOf kidCells (sKids L n).2)
    rw [sKids_len]; exact ho
  by_cases h3 : kind = 3
  · subst h3
    refine (l2ReadBody_leaf L n hn a c w A B hB hBw).mono ?_
    rintro e w' ⟨va, vc, rfl, ho, hb⟩
    rw [sRead, if_neg (by decide), if_neg (by decide), if_pos rfl]
    refine ⟨_, rfl, ⟨_, _, rfl, World.ownsRow_nil _ _ _ _, ?_, .inl rfl⟩, hb⟩
    show World.ownsRow _ _ _ _ _ (sEnts L n).2.length (rowsOf entCells (sEnts L n).2)
    rw [sEnts_len]; exact ho
  by_cases h4 : kind = 4
  · subst h4
    refine (l2ReadBody_over L n a c w A B hB hBw).mono ?_
    rintro e w' ⟨rfl, hb⟩
    rw [sRead, if_neg (by decide), if_neg (by decide), if_neg (by decide), if_pos rfl]
    exact ⟨_, rfl, ⟨_, _, rfl, World.ownsRow_nil _ _ _ _, World.ownsRow_nil _ _ _ _, .inl rfl⟩, hb⟩
  · refine (l2ReadBody_none kind h1 h2 h3 h4 L n a c w A B hB hBw).mono ?_
    rintro e w' ⟨rfl, hb⟩
    rw [sRead, if_neg h1, if_neg h2, if_neg h3, if_neg h4]
    exact ⟨_, rfl, ⟨_, _, rfl, World.ownsRow_nil _ _ _ _, World.ownsRow_nil _ _ _ _, .inl rfl⟩, hb⟩
end Old
end Go.Proofs.Ytcmhobbpeaeebaa
namespace Go.Proofs.Ytcmhobbpeaeebaa
namespace Old
open Go.RowKit
set_option linter.unusedVariables false
set_option maxRecDepth 100000

/-- The bytes x stand in L at k. -/
def Has (L : List Int) (k : Nat) (x : List Int) : Prop := ∃ post, L.drop k = x ++ post
theorem Has.left {L : List Int} {k : Nat} {x y : List Int} (h : Has L k (x ++ y)) : Has L k x := by
  obtain ⟨p, h⟩ := h; exact ⟨y ++ p, by rw [h, List.append_assoc]⟩
theorem Has.right {L : List Int} {k : Nat} {x y : List Int} (h : Has L k (x ++ y)) : Has L (k + x.length) y := by
  obtain ⟨p, h⟩ := h
  refine ⟨p, ?_⟩
  rw [← List.drop_drop, h, List.append_assoc, List.drop_left]
theorem Has.len {L : List Int} {k : Nat} {x : List Int} (h : Has L k x) (hx : x ≠ []) : k + x.length ≤ L.length := by
  obtain ⟨p, h⟩ := h
  have h1 := congrArg List.length h
  simp at h1
  have : 0 < x.length := List.length_pos_iff.2 hx
  omega
theorem Has.take {L : List Int} {k : Nat} {x : List Int} (h : Has L k x) : (L.drop k).take x.length = x := by
  obtain ⟨p, h⟩ := h; rw [h, List.take_left]
theorem Has.sTake {L : List Int} {k : Nat} {x : List Int} (h : Has L k x) (hk : k + x.length ≤ L.length) : sTake L (some k) x.length = (some (k + x.length), x) := by
  simp only [Go.Proofs.Ytcmhobbpeaeebaa.sTake, if_pos hk, h.take]
theorem Has.cut {L : List Int} (hL : L.length = 128) {k : Nat} {x : List Int} (h : Has L k x) (hk : k + x.length ≤ 128) : cutL L k x.length = x := by
  rw [cutL, show min (k + x.length) 128 - k = x.length by omega]; exact h.take
theorem Has.num {L : List Int} (hL : L.length = 128) {k n : Nat} {v : Int} (h : Has L k (numB true n v)) (hk : k + n ≤ 128) (h0 : 0 ≤ v) (h1 : v < 256 ^ n) : rN L k n = v ∧ adv k n = k + n := by
  have hl := numB_len true n v
  have hc := h.cut hL (by omega)
  rw [hl] at hc
  exact ⟨by rw [rN, hc, numOf_numB _ _ _ h0 h1], by unfold adv; omega⟩
theorem one_num (x : Int) (h : 0 ≤ x ∧ x ≤ 255) : [x] = numB true 1 x := by
  cases hb : true <;> simp [numB, beB, leB] <;> omega
theorem Has.byte {L : List Int} (hL : L.length = 128) {k : Nat} {v : Int} (h : Has L k [v]) (hk : k + 1 ≤ 128) (hv : 0 ≤ v ∧ v ≤ 255) : rN L k 1 = v ∧ adv k 1 = k + 1 := by
  rw [one_num v hv] at h
  exact h.num hL hk hv.1 (by omega)
theorem Has.text {L : List Int} (hL : L.length = 128) {k : Nat} {s : ByteArray} (h : Has L k (textB s)) (hs : s.size ≤ 255) (hk : k + 1 + s.size ≤ 128) : tStr L k = s ∧ tEnd L k = k + 1 + s.size := by
  have h1 : Has L k [(s.size : Int)] := Has.left (y := strB s) h
  have h2 : Has L (k + 1) (strB s) := Has.right (x := [(s.size : Int)]) h
  obtain ⟨e1, e2⟩ := h1.byte hL (by omega) (by omega)
  have el : tLen L k = s.size := by rw [tLen, e1]; simp
  have hc := h2.cut hL (by rw [strB_len]; omega)
  rw [strB_len] at hc
  refine ⟨?_, ?_⟩
  · rw [tStr, el, e2, hc, toB_strB]
  · rw [tEnd, el, e2]; unfold adv; omega
theorem Has.sbyte {L : List Int} {k : Nat} {v : Int} (h : Has L k [v]) : Go.Proofs.Ytcmhobbpeaeebaa.sTake L (some k) 1 = (some (k + 1), [v]) := h.sTake (h.len (by simp))
theorem Has.snum {L : List Int} {k n : Nat} {v : Int} (h : Has L k (numB true n v)) (hn : 0 < n) : Go.Proofs.Ytcmhobbpeaeebaa.sTake L (some k) n = (some (k + n), numB true n v) := by
  have hl := numB_len true n v
  have := h.sTake (h.len (by intro e; rw [e] at hl; simp at hl; omega))
  rwa [hl] at this
theorem Has.sstr {L : List Int} {k : Nat} {s : ByteArray} (h : Has L k (strB s)) (hk : k + s.size ≤ L.length) : Go.Proofs.Ytcmhobbpeaeebaa.sTake L (some k) s.size = (some (k + s.size), strB s) := by
  have := h.sTake (by rw [strB_len]; exact hk)
  rwa [strB_len] at this
theorem take_getD {α : Type} (l : List α) (d : α) {n : Nat} (h : n < l.length) : l.take (n + 1) = l.take n ++ [l.getD n d] := by
  rw [List.take_add_one]; simp [List.getD, h]
theorem kidsR_has {L : List Int} (hL : L.length = 128) (k : Nat) (ks : List PK) (h0 : (ks.getD 0 dK).1 = ⟨#[]⟩) (hs : ∀ i, i < ks.length → 0 < i → (ks.getD i dK).1.size ≤ 8) (hp : ∀ i, i < ks.length → 0 ≤ (ks.getD i dK).2 ∧ (ks.getD i dK).2 < 256 ^ (smallN true)) :
    ∀ n, n ≤ ks.length → Has L k (kidsB true (smallN true) ks n) → k + (kidsB true (smallN true) ks n).length ≤ 128 → kidsR L k n = (ks.take n, k + (kidsB true (smallN true) ks n).length)
  | 0, _, _, _ => by simp [kidsR, kidsB]
  | n + 1, hn, h, hk => by
    have hl : (kidsB true (smallN true) ks (n + 1)).length = (kidsB true (smallN true) ks n).length + (kidB true (smallN true) n (ks.getD n dK)).length := by simp [kidsB]
    have ih := kidsR_has hL k ks h0 hs hp n (by omega) (Has.left (y := kidB true (smallN true) n (ks.getD n dK)) h) (by omega)
    have h2 : Has L (k + (kidsB true (smallN true) ks n).length) (kidB true (smallN true) n (ks.getD n dK)) := Has.right h
    have hpn := hp n (by omega)
    rw [kidsR, ih, take_getD ks dK (by omega)]
    generalize (kidsB true (smallN true) ks n).length = m at *
    by_cases hz : 0 < n
    · have hsz := hs n (by omega) hz
      have ek : kidB true (smallN true) n (ks.getD n dK) = textB (ks.getD n dK).1 ++ numB true (smallN true) (ks.getD n dK).2 := by simp [kidB, hz]
      rw [ek] at h2 hl
      rw [List.length_append, textB_len, numB_len] at hl
      obtain ⟨e1, e2⟩ := (Has.left h2).text hL (by omega) (by omega)
      have h3 := Has.right h2
      rw [textB_len] at h3
      obtain ⟨e3, e4⟩ := h3.num hL (by omega) hpn.1 hpn.2
      simp only [kSep, kMid, if_pos hz, e1, e2]
      have ea : k + m + 1 + (ks.getD n dK).1.size = k + m + ((ks.getD n dK).1.size + 1) := by omega
      rw [ea, e3, e4, hl]
      refine Prod.ext rfl ?_
      show k + m + ((ks.getD n dK).1.size + 1) + smallN true = k + (m + ((ks.getD n dK).1.size + 1 + smallN true))
      omega
    · obtain rfl : n = 0 := by omega
      have ek : kidB true (smallN true) 0 (ks.getD 0 dK) = numB true (smallN true) (ks.getD 0 dK).2 := by simp [kidB]
      rw [ek] at h2 hl
      rw [numB_len] at hl
      obtain ⟨e3, e4⟩ := h2.num hL (by omega) hpn.1 hpn.2
      simp only [kSep, kMid, if_neg hz]
      rw [e3, e4, hl]
      have ep : ((⟨#[]⟩ : ByteArray), (ks.getD 0 dK).2) = ks.getD 0 dK := Prod.ext h0.symm rfl
      refine Prod.ext ?_ ?_
      · show List.take 0 ks ++ [(ByteArray.empty, (ks.getD 0 dK).2)] = List.take 0 ks ++ [ks.getD 0 dK]
        rw [← ep]; rfl
      · show k + m + smallN true = k + (m + smallN true)
        omega
/-- What an entry must be to be read back. -/
def EntGood (e : PE) : Prop := e.1.size ≤ 8 ∧ ((e.2.2.1 = 0 ∧ e.2.2.2 = (e.2.1.size : Int) ∧ e.2.1.size ≤ 8) ∨ (e.2.2.1 ≠ 0 ∧ 0 ≤ e.2.2.1 ∧ e.2.2.1 < 256 ^ (smallN true) ∧ e.2.1 = ⟨#[]⟩ ∧ 0 ≤ e.2.2.2 ∧ e.2.2.2 < 256 ^ (smallN true)))
def fillB (s : ByteArray) : List Int := if true = true then List.replicate (8 - s.size) 0 else []
theorem entB_parts (e : PE) : entB true (smallN true) e = textB e.1 ++ (fillB e.1 ++ (if e.2.2.1 = 0 then [0] ++ textB e.2.1 else [1] ++ (numB true (smallN true) e.2.2.1 ++ numB true (smallN true) e.2.2.2))) := by
  unfold entB fillB
  rw [List.append_assoc]
  congr 2
theorem entR_has {L : List Int} (hL : L.length = 128) (p : Nat) (e : PE) (hg : EntGood e) (h : Has L p (entB true (smallN true) e)) (hk : p + (entB true (smallN true) e).length ≤ 128) : entR L p = (e, p + (entB true (smallN true) e).length) := by
  obtain ⟨h8, hc⟩ := hg
  rw [entB_parts] at h hk ⊢
  obtain ⟨key, val, ov, sz⟩ := e
  simp only at h8 hc h hk ⊢
  rw [List.length_append, List.length_append, textB_len] at hk ⊢
  obtain ⟨e1, e2⟩ := (Has.left h).text hL (by omega) (by omega)
  have h2 := Has.right h
  rw [textB_len] at h2
  have h3 := Has.right h2
  have eK : kEnd L p = p + (key.size + 1) + (fillB key).length := by
    by_cases ho : true = true
    · have hf : (fillB key).length = 8 - key.size := by rw [fillB, if_pos ho]; simp
      rw [hf] at hk
      rw [kEnd, if_pos ho, e1, e2, hf]
      unfold adv
      omega
    · have hf : (fillB key).length = 0 := by rw [fillB, if_neg ho]; rfl
      rw [kEnd, if_neg ho, e2, hf]
      omega
  generalize hF : (fillB key).length = f at *
  rcases hc with ⟨rfl, rfl, hv8⟩ | ⟨hne, ho0, ho1, rfl, hs0, hs1⟩
  · rw [if_pos rfl] at h3 hk ⊢
    rw [List.length_append, textB_len] at hk ⊢
    simp only [List.length_cons, List.length_nil] at hk ⊢
    obtain ⟨e3, e4⟩ := (Has.left h3).byte hL (by omega) (by omega)
    obtain ⟨e5, e6⟩ := (Has.right h3).text hL (by omega) (by simp; omega)
    simp only [List.length_cons, List.length_nil] at e5 e6
    unfold entR
    rw [eK, e3, if_pos rfl, e1, e4, e5, e6]
    refine Prod.ext rfl ?_
    show _ = p + (key.size + 1 + (f + (0 + 1 + (val.size + 1))))
    omega
  · rw [if_neg hne] at h3 hk ⊢
    rw [List.length_append, List.length_append, numB_len, numB_len] at hk ⊢
    simp only [List.length_cons, List.length_nil] at hk ⊢
    obtain ⟨e3, e4⟩ := (Has.left h3).byte hL (by omega) (by omega)
    have h4 := Has.right h3
    simp only [List.length_cons, List.length_nil] at h4
    obtain ⟨e5, e6⟩ := (Has.left h4).num hL (by omega) ho0 ho1
    have h5 := Has.right h4
    rw [numB_len] at h5
    obtain ⟨e7, e8⟩ := h5.num hL (by omega) hs0 hs1
    unfold entR
    rw [eK, e3, if_neg (by decide), e1, e4, e5, e6, e7, e8]
    refine Prod.ext rfl ?_
    show _ = p + (key.size + 1 + (f + (0 + 1 + (smallN true + smallN true))))
    omega
theorem entsR_has {L : List Int} (hL : L.length = 128) (k : Nat) (es : List PE) (hg : ∀ i, i < es.length → EntGood (es.getD i dE)) :
    ∀ n, n ≤ es.length → Has L k (entsB true (smallN true) es n) → k + (entsB true (smallN true) es n).length ≤ 128 → entsR L k n = (es.take n, k + (entsB true (smallN true) es n).length)
  | 0, _, _, _ => by simp [entsR, entsB]
  | n + 1, hn, h, hk => by
    have hl : (entsB true (smallN true) es (n + 1)).length = (entsB true (smallN true) es n).length + (entB true (smallN true) (es.getD n dE)).length := by simp [entsB]
    have ih := entsR_has hL k es hg n (by omega) (Has.left (y := entB true (smallN true) (es.getD n dE)) h) (by omega)
    have h2 : Has L (k + (entsB true (smallN true) es n).length) (entB true (smallN true) (es.getD n dE)) := Has.right h
    rw [entsR, ih, entR_has hL _ _ (hg n (by omega)) h2 (by omega), take_getD es dE (by omega), hl, Nat.add_assoc]
theorem sEnt_has {L : List Int} (p : Nat) (e : PE) (hg : EntGood e) (h : Has L p (entB true (smallN true) e)) : sEnt L (some p) = (some (p + (entB true (smallN true) e).length), e) := by
  obtain ⟨h8, hc⟩ := hg
  rw [entB_parts] at h ⊢
  obtain ⟨key, val, ov, sz⟩ := e
  simp only at h8 hc h ⊢
  have hs2 : 0 < smallN true := by decide
  have h1 : Has L p [(key.size : Int)] := Has.left (y := strB key) (Has.left h)
  have t1 := h1.sbyte
  have hh : Has L p ([(key.size : Int)] ++ ((strB key ++ fillB key) ++ (if ov = 0 then [0] ++ textB val else [1] ++ (numB true (smallN true) ov ++ numB true (smallN true) sz)))) := by
    have := h; rw [textB] at this; simpa using this
  have h2 := Has.right hh
  simp only [List.length_cons, List.length_nil, Nat.zero_add] at h2
  have hkl : (strB key ++ fillB key).length = 8 := by
    rw [List.length_append, strB_len]
    simp [fillB]
    try omega
  have h3 := Has.right h2
  have hne : (if ov = 0 then [0] ++ textB val else [1] ++ (numB true (smallN true) ov ++ numB true (smallN true) sz)) ≠ ([] : List Int) := by split <;> simp
  have hb3 := h3.len hne
  have t2 := (Has.left h2).sTake (by omega)
  rw [hkl] at t2 h3 hb3
  have ttk : (strB key ++ fillB key).take key.size = strB key := by rw [← strB_len, List.take_left]
  have hn8 : ¬ 8 < key.size := by omega
  have etot : (textB key ++ (fillB key ++ (if ov = 0 then [0] ++ textB val else [1] ++ (numB true (smallN true) ov ++ numB true (smallN true) sz)))).length = 1 + 8 + (if ov = 0 then [0] ++ textB val else [1] ++ (numB true (smallN true) ov ++ numB true (smallN true) sz)).length := by
    have hk2 := hkl
    rw [List.length_append, strB_len] at hk2
    rw [List.length_append, List.length_append, textB_len]
    omega
  rw [etot]
  rcases hc with ⟨rfl, rfl, hv8⟩ | ⟨hne2, ho0, ho1, rfl, hs0, hs1⟩
  · rw [if_pos rfl] at h3 hb3 ⊢
    rw [List.length_append, textB_len] at hb3 ⊢
    simp only [List.length_cons, List.length_nil] at hb3 ⊢
    have t3 := (Has.left h3).sbyte
    have h4 := Has.right h3
    simp only [List.length_cons, List.length_nil, Nat.zero_add] at h4
    have t4 := (Has.left (x := [(val.size : Int)]) (y := strB val) h4).sbyte
    have t5 := (Has.right (x := [(val.size : Int)]) (y := strB val) h4).sstr (by simp; omega)
    simp only [List.length_cons, List.length_nil, Nat.zero_add] at t5
    have z1 : ¬ (0 : Int) = 1 := by decide
    simp only [sEnt, t1, List.getD_cons_zero, Int.toNat_natCast, if_neg hn8, if_true, t2, ttk, toB_strB, t3, if_neg z1, t4, t5]
    refine Prod.ext ?_ rfl
    show some _ = some _
    first | rfl | (congr 1; omega)
  · rw [if_neg hne2] at h3 hb3 ⊢
    rw [List.length_append, List.length_append, numB_len, numB_len] at hb3 ⊢
    simp only [List.length_cons, List.length_nil] at hb3 ⊢
    have t3 := (Has.left h3).sbyte
    have h4 := Has.right h3
    simp only [List.length_cons, List.length_nil, Nat.zero_add] at h4
    have t4 := (Has.left h4).snum hs2
    have h5 := Has.right h4
    rw [numB_len] at h5
    have t5 := h5.snum hs2
    simp only [sEnt, t1, List.getD_cons_zero, Int.toNat_natCast, if_neg hn8, if_true, t2, ttk, toB_strB, t3, t4, t5, numOf_numB _ _ _ ho0 ho1, numOf_numB _ _ _ hs0 hs1]
    refine Prod.ext ?_ rfl
    show some _ = some _
    first | rfl | (congr 1; omega)
theorem sEnts_has {L : List Int} (es : List PE) (hg : ∀ i, i < es.length → EntGood (es.getD i dE)) :
    ∀ n, n ≤ es.length → Has L 0 (entsB true (smallN true) es n) → sEnts L n = (some (entsB true (smallN true) es n).length, es.take n)
  | 0, _, _ => by simp [sEnts, entsB]
  | n + 1, hn, h => by
    have hl : (entsB true (smallN true) es (n + 1)).length = (entsB true (smallN true) es n).length + (entB true (smallN true) (es.getD n dE)).length := by simp [entsB]
    have ih := sEnts_has es hg n (by omega) (Has.left (y := entB true (smallN true) (es.getD n dE)) h)
    have h2 : Has L (0 + (entsB true (smallN true) es n).length) (entB true (smallN true) (es.getD n dE)) := Has.right h
    rw [Nat.zero_add] at h2
    rw [sEnts, ih]
    simp only
    rw [sEnt_has _ _ (hg n (by omega)) h2, take_getD es dE (by omega), hl]
theorem sKids_has {L : List Int} (ks : List PK) (h0 : (ks.getD 0 dK).1 = ⟨#[]⟩) (hs : ∀ i, i < ks.length → 0 < i → (ks.getD i dK).1.size ≤ 8) (hp : ∀ i, i < ks.length → 0 ≤ (ks.getD i dK).2 ∧ (ks.getD i dK).2 < 256 ^ (smallN true)) :
    ∀ n, n ≤ ks.length → Has L 0 (kidsB true (smallN true) ks n) → sKids L n = (some (kidsB true (smallN true) ks n).length, ks.take n)
  | 0, _, _ => by simp [sKids, kidsB]
  | n + 1, hn, h => by
    have hs2 : 0 < smallN true := by decide
    have hl : (kidsB true (smallN true) ks (n + 1)).length = (kidsB true (smallN true) ks n).length + (kidB true (smallN true) n (ks.getD n dK)).length := by simp [kidsB]
    have ih := sKids_has ks h0 hs hp n (by omega) (Has.left (y := kidB true (smallN true) n (ks.getD n dK)) h)
    have h2 : Has L (0 + (kidsB true (smallN true) ks n).length) (kidB true (smallN true) n (ks.getD n dK)) := Has.right h
    rw [Nat.zero_add] at h2
    have hpn := hp n (by omega)
    rw [sKids, ih, take_getD ks dK (by omega)]
    generalize (kidsB true (smallN true) ks n).length = m at *
    by_cases hz : 0 < n
    · have ek : kidB true (smallN true) n (ks.getD n dK) = ([((ks.getD n dK).1.size : Int)] ++ strB (ks.getD n dK).1) ++ numB true (smallN true) (ks.getD n dK).2 := by simp [kidB, hz, textB]
      rw [ek] at h2 hl
      rw [List.length_append, List.length_append, strB_len, numB_len] at hl
      simp only [List.length_cons, List.length_nil] at hl
      have t1 := (Has.left (Has.left h2)).sbyte
      have h3 := Has.right h2
      rw [List.length_append, strB_len] at h3
      simp only [List.length_cons, List.length_nil, Nat.zero_add] at h3
      have hb := h3.len (by intro e; have := congrArg List.length e; rw [numB_len] at this; simp at this; omega)
      have hst := Has.right (Has.left h2)
      simp only [List.length_cons, List.length_nil, Nat.zero_add] at hst
      have t2 := hst.sstr (by omega)
      have t3 := h3.snum hs2
      have ea : m + 1 + (ks.getD n dK).1.size = m + (1 + (ks.getD n dK).1.size) := by omega
      simp only [sSep, if_pos hz, t1, List.getD_cons_zero, Int.toNat_natCast, t2, toB_strB, ea, t3, numOf_numB _ _ _ hpn.1 hpn.2]
      rw [hl]
      refine Prod.ext ?_ rfl
      show some _ = some _
      first | rfl | (congr 1; omega)
    · obtain rfl : n = 0 := by omega
      have ek : kidB true (smallN true) 0 (ks.getD 0 dK) = numB true (smallN true) (ks.getD 0 dK).2 := by simp [kidB]
      rw [ek] at h2 hl
      rw [numB_len] at hl
      have t3 := h2.snum hs2
      simp only [sSep, if_neg hz, t3, numOf_numB _ _ _ hpn.1 hpn.2]
      rw [hl]
      have ep : ((⟨#[]⟩ : ByteArray), (ks.getD 0 dK).2) = ks.getD 0 dK := Prod.ext h0.symm rfl
      rw [ep]
end Old
end Go.Proofs.Ytcmhobbpeaeebaa
