import Derived.Test.YtpiadgjkljdbcaaPgY
namespace Go.Proofs.Ytpiadgjkljdbcaa
open Go.RowKit
set_option linter.unusedVariables false
set_option maxRecDepth 100000

theorem l2Old_any (w : World) : Calls Try.prog 65 #[] w fun e w' => e = .returned (.agg #[.bool true, .int .i64 2, .bool true]) ∧ Below w.heap.size w w' := by
  go_enter Try.func65, Try.ntmps65
  go_wp2
  exact bodyPost_ret (v := .agg #[.bool true, .int .i64 2, .bool true]) (by simp [results, Try.results65, go_sem]) rfl ⟨rfl, by first | exact Below.refl _ _ | exact (Below.refl _ _).alloc (Nat.le_refl _) _⟩

set_option maxHeartbeats 1600000 in
theorem specEncodeOld_any (p : Pg) (hf : PgFit p) (ka : Option Addr) (kc : Nat) (ea : Option Addr) (ec : Nat) (w : World) (A B : Nat) (hB : B ≤ w.heap.size) (hK : KidsAt w A B ka p.ks.length kc p.ks) (hE : EntsAt w A B ea p.es.length ec p.es) :
    Calls Try.prog 30 #[.agg #[.int .i64 p.kind, .int .i64 p.tx, .int .i64 p.id, .int .i64 p.root, .int .i64 p.count, .slice ka p.ks.length kc, .slice ea p.es.length ec, .int .i64 p.next, .string p.data]] w fun e w' => ∃ v, e = .returned v ∧ w'.ownsRow w.heap.size 5 1 v (oldCodeOf p).length (u8s (oldCodeOf p)) ∧ Below w.heap.size w w' := by
  have hb0 : Below w.heap.size w (w.alloc (.cells #[.int .i64 p.kind, .int .i64 p.tx, .int .i64 p.id, .int .i64 p.root, .int .i64 p.count, .slice ka p.ks.length kc, .slice ea p.es.length ec, .int .i64 p.next, .string p.data] 65)) := (Below.refl _ _).alloc (Nat.le_refl _) _
  by_cases htx : p.tx = 0
  · have st : (p.tx != 0) = false := by simpa using htx
    have HT : Hid (p.tx = 0) := htx
    clear htx
    by_cases hok : bodyOk 1 998 p = true
    · go_enter Try.func30, Try.ntmps30
      go_wp2_with (go_at_call 62; refine (l2Body_any p hf ka kc ea ec 1 998 (by omega) _ A B (by simp; omega) (hK.below (hb0.mono hB)) (hE.below (hb0.mono hB))).mono ?_; rintro e w1 ⟨rfl, hb1⟩; have hB2 := hb0.trans (hb1.mono (by simp)); have HX1 := eb_call (heap_alloc_new w _) hb1; obtain ⟨c5, c6, c0, c2, c3, c4, c7, c8, c1⟩ := box_slice HX1)
      have hcnt := body_count hok
      have hkw : IntKind.u8.wrap p.kind = p.kind := u8_in p.kind (body_kind hok)
      have hlen := bodyB_len true hok
      go_region_held3 (fun w' => w'.cell? ⟨w.heap.size, 0, none⟩ = some (.int .i64 p.kind) ∧ w'.cell? ⟨w.heap.size, 1, none⟩ = some (.int .i64 p.tx) ∧ w'.cell? ⟨w.heap.size, 2, none⟩ = some (.int .i64 p.id) ∧ w'.cell? ⟨w.heap.size, 3, none⟩ = some (.int .i64 p.root) ∧ w'.cell? ⟨w.heap.size, 4, none⟩ = some (.int .i64 p.count) ∧ w'.cell? ⟨w.heap.size, 5, none⟩ = some (.slice ka p.ks.length kc) ∧ w'.cell? ⟨w.heap.size, 6, none⟩ = some (.slice ea p.es.length ec) ∧ w'.cell? ⟨w.heap.size, 7, none⟩ = some (.int .i64 p.next) ∧ w'.cell? ⟨w.heap.size, 8, none⟩ = some (.string p.data)) (go_keep)
        (first
          | (refine step_ab rfl _ _ rfl w.heap.size _ 3 [79, p.kind, ((p.ks.length + p.es.length : Nat) : Int)] (by simp [Act.eval]) hLrow aw m4 cw (bodyB true p) _ _ (by simp [Act.eval]) hBW (by have := hBW.1; omega) hB5.size ?_; intro v5 w5 hO5 hg5; have HX5 := eb_grown HX4 (by decide) hLrow hg5; have hB6 := hB5.grown hg5 hB5.size (fun g e => (hLrow.lt g e).1); obtain ⟨k5, k6, k0, k2, k3, k4, k7, k8, k1⟩ := box_slice HX5)
          | (have hL3' := hL3; go_at_call 64; refine (l2WriteBody_any true p hf 1 998 hok ka kc ea ec w3 A B (Nat.le_trans hB hB4.size) (hK.below (hB4.mono hB)) (hE.below (hB4.mono hB))).mono ?_; rintro e w4 ⟨v4, m4, rfl, hO4, hb4⟩; obtain ⟨aw, cw, rfl⟩ := own_shape hO4; have hBW0 := bytesAt_row hO4 (bodyB_byte true hok); have hBW := hBW0; have hLrow := owns_below hL3 hb4; have HX4 := eb_call HX3 hb4; have hB5 := hB4.trans (hb4.mono hB4.size); obtain ⟨k5, k6, k0, k2, k3, k4, k7, k8, k1⟩ := box_slice HX4)
          | (go_at_call 64; refine (l2WriteBody_any true p hf 1 998 hok ka kc ea ec w3 A B (Nat.le_trans hB hB4.size) (hK.below (hB4.mono hB)) (hE.below (hB4.mono hB))).mono ?_; rintro e w4 ⟨v4, m4, rfl, hO4, hb4⟩; obtain ⟨aw, cw, rfl⟩ := own_shape hO4; have hBW0 := bytesAt_row hO4 (bodyB_byte true hok); have hBW := hBW0.below ((Below.refl w4.heap.size w4).alloc (Nat.le_refl _) (.cells #[.int .u8 79, .int .u8 p.kind, .int .u8 ((p.ks.length + p.es.length : Nat) : Int)] 5)); have hB5' := hB4.trans (hb4.mono hB4.size); have hLrow := World.ownsRow_lit (base := w.heap.size) (e := 5) (size := 1) w4 #[.int .u8 79, .int .u8 p.kind, .int .u8 ((p.ks.length + p.es.length : Nat) : Int)] 3 hB5'.size (by unfold maxLen; omega) rfl; have HX4' := eb_call HX3 hb4; have HX4 := eb_call HX4' ((Below.refl w4.heap.size w4).alloc (Nat.le_refl _) (.cells #[.int .u8 79, .int .u8 p.kind, .int .u8 ((p.ks.length + p.es.length : Nat) : Int)] 5)); have hB5 := hB5'.alloc hB5'.size (.cells #[.int .u8 79, .int .u8 p.kind, .int .u8 ((p.ks.length + p.es.length : Nat) : Int)] 5); obtain ⟨k5, k6, k0, k2, k3, k4, k7, k8, k1⟩ := box_slice HX4')
          | (have hB4a := hB4.alloc hB4.size (.cells #[.int .u8 79, .int .u8 p.kind, .int .u8 ((p.ks.length + p.es.length : Nat) : Int)] 5); go_at_call 64; refine (l2WriteBody_any true p hf 1 998 hok ka kc ea ec (w3.alloc (.cells #[.int .u8 79, .int .u8 p.kind, .int .u8 ((p.ks.length + p.es.length : Nat) : Int)] 5)) A B (Nat.le_trans hB hB4a.size) (hK.below (hB4a.mono hB)) (hE.below (hB4a.mono hB))).mono ?_; rintro e w4 ⟨v4, m4, rfl, hO4, hb4⟩; obtain ⟨aw, cw, rfl⟩ := own_shape hO4; have hBW0 := bytesAt_row hO4 (bodyB_byte true hok); have hBW := hBW0; have hLrow := owns_below (World.ownsRow_lit (base := w.heap.size) (e := 5) (size := 1) w3 #[.int .u8 79, .int .u8 p.kind, .int .u8 ((p.ks.length + p.es.length : Nat) : Int)] 3 hB4.size (by unfold maxLen; omega) rfl) hb4; have HX4 := eb_call (eb_call HX3 ((Below.refl w3.heap.size w3).alloc (Nat.le_refl _) (.cells #[.int .u8 79, .int .u8 p.kind, .int .u8 ((p.ks.length + p.es.length : Nat) : Int)] 5))) hb4; have hB5 := hB4a.trans (hb4.mono hB4a.size); obtain ⟨k5, k6, k0, k2, k3, k4, k7, k8, k1⟩ := box_slice HX4)
          | (go_at_call 65; refine (l2Old_any w2).mono ?_; rintro e w3 ⟨rfl, hb3⟩; have HX3 := eb_call HX2 hb3; have hB4 := hB3.trans (hb3.mono hB3.size); obtain ⟨k5, k6, k0, k2, k3, k4, k7, k8, k1⟩ := box_slice HX3)
          | (go_at_call 65; refine (l2Old_any (w2.alloc (.cells #[.int .u8 79, .int .u8 p.kind, .int .u8 ((p.ks.length + p.es.length : Nat) : Int)] 5))).mono ?_; rintro e w3 ⟨rfl, hb3⟩; have HX3 := eb_call (eb_call HX2 ((Below.refl w2.heap.size w2).alloc (Nat.le_refl _) (.cells #[.int .u8 79, .int .u8 p.kind, .int .u8 ((p.ks.length + p.es.length : Nat) : Int)] 5))) hb3; have hL3 := owns_below (World.ownsRow_lit (base := w.heap.size) (e := 5) (size := 1) w2 #[.int .u8 79, .int .u8 p.kind, .int .u8 ((p.ks.length + p.es.length : Nat) : Int)] 3 hB3.size (by unfold maxLen; omega) rfl) hb3; have hB4 := (hB3.alloc hB3.size (.cells #[.int .u8 79, .int .u8 p.kind, .int .u8 ((p.ks.length + p.es.length : Nat) : Int)] 5)).trans (hb3.mono (hB3.alloc hB3.size (.cells #[.int .u8 79, .int .u8 p.kind, .int .u8 ((p.ks.length + p.es.length : Nat) : Int)] 5)).size); obtain ⟨k5, k6, k0, k2, k3, k4, k7, k8, k1⟩ := box_slice HX3)
          | (go_at_call 63; refine (l2Count_any p ka p.ks.length kc ea p.es.length ec hcnt w1.drew).mono ?_; rintro e w2 ⟨rfl, hb2⟩; have HX2 := eb_call (w' := w1.drew) HX1 hb2; have hB3 := hB2.drew.trans (hb2.mono hB2.size); obtain ⟨k5, k6, k0, k2, k3, k4, k7, k8, k1⟩ := box_slice HX2))
      all_goals
        have hm4 : m4 = (bodyB true p).length := hBW.1.symm
        have hl5 : ([79, p.kind, ((p.ks.length + p.es.length : Nat) : Int)] ++ bodyB true p).length = 3 + m4 := by simp; omega
        have hby : ∀ x ∈ [79, p.kind, ((p.ks.length + p.es.length : Nat) : Int)] ++ bodyB true p, 0 ≤ x ∧ x ≤ 255 := bytes_app (by have := body_kind hok; intro x hx; simp at hx; omega) (bodyB_byte true hok)
        have HP : Hid (oldCodeOf p = padB 127 ([79, p.kind, ((p.ks.length + p.es.length : Nat) : Int)] ++ bodyB true p) ++ [sumI (padB 127 ([79, p.kind, ((p.ks.length + p.es.length : Nat) : Int)] ++ bodyB true p)) % 256]) := by
          show _ = _
          rw [oldCodeOf, if_pos ⟨HT.out, hok⟩]; rfl
        have hm100 : m4 ≤ 104 := by omega
        generalize [79, p.kind, ((p.ks.length + p.es.length : Nat) : Int)] ++ bodyB true p = l0 at hO5 hl5 hby HP
        have HO5 : Hid (w5.ownsRow w.heap.size 5 1 v5 (3 + m4) (u8s l0)) := hO5
        have HB6 : Hid (Below w.heap.size w w5) := hB6
        clear hlen hcnt hkw hBW hBW0 hLrow HX4 HX5 HX3 HX2 hO4 hg5 hB5 hB4 hB3 hb2 hb3 hb4 hm4 hB6 hO5 k0 k1 k2 k3 k4 k5 k6 k7 k8 c0 c1 c2 c3 c4 c5 c6 c7 c8 hok hK hE
        go_wp2_with (go_at_call 66; refine (l2Zeros_any v5 (3 + m4) 127 w.heap.size l0 hl5 (by omega) (by omega) w5 HO5.out HB6.out.size).mono ?_; rintro e w6 ⟨v6, rfl, hO6, hb6⟩; obtain ⟨z6, c6, rfl⟩ := own_shape hO6)
        have HPL : Hid (padB 127 l0 = l0 ++ List.replicate (127 - (3 + m4)) 0) := by show padB 127 l0 = _; rw [padB, hl5]
        have hlen6 : (l0 ++ List.replicate (127 - (3 + m4)) (0 : Int)).length = 127 := by simp; omega
        have hby6 : ∀ x ∈ l0 ++ List.replicate (127 - (3 + m4)) (0 : Int), 0 ≤ x ∧ x ≤ 255 := bytes_app hby (by intro x hx; have := List.eq_of_mem_replicate hx; omega)
        have HB7 : Hid (Below w.heap.size w w6) := HB6.out.trans hb6
        generalize l0 ++ List.replicate (127 - (3 + m4)) (0 : Int) = l1 at hO6 HPL hlen6 hby6
        rw [HPL.out] at HP
        have hBA := bytesAt_row hO6 hby6
        have HO6 : Hid (w6.ownsRow w.heap.size 5 1 (.slice z6 127 c6) 127 (u8s l1)) := hO6
        clear hO6 hb6 HO5 HB6 hby hl5 HPL
        have HLL : Hid (l1.length = 127) := hlen6
        clear hlen6
        go_loopw [4, 5] (fun s i wr => ∃ k : Nat, k ≤ 127 ∧ i = .int .i64 k ∧ wr = w6 ∧ s = .int .u8 (sumI (l1.take k) % 256)) (fun _ i _ => 127 - (intOf i).toNat)
        case atStart => exact ⟨0, by omega, rfl, rfl, rfl⟩
        case round =>
          obtain ⟨k, hk, rfl, rfl, rfl⟩ := hrel
          by_cases hlt : k < 127
          · obtain ⟨b, off, rfl, hb, hcb⟩ := hBA.2.2.2.2.1 (by omega)
            have e1 := hcb k hlt
            have hx := getD_byteB hby6 k
            have HS : Hid (sumI (l1.take (k + 1)) = sumI (l1.take k) + l1.getD k 0) := sumI_take (by have := HLL.out; omega)
            generalize l1.getD k 0 = x at e1 hx HS
            generalize sumI (l1.take k) = s at HS
            clear hBA hcb
            go_wp2
            go_roundw
            case rel => exact ⟨k + 1, by omega, by go_num, trivial, by rw [HS.out]; go_num⟩
            case measure => simp [intOf]; omega
          · obtain rfl : k = 127 := by omega
            have HT2 : Hid (l1.take 127 = l1) := List.take_of_length_le (by have := HLL.out; omega)
            rw [HT2.out]
            have hsx : 0 ≤ sumI l1 % 256 ∧ sumI l1 % 256 ≤ 255 := by omega
            generalize sumI l1 % 256 = s at hsx HP
            have hB8 := bytesAt_one wr s hsx
            have hO8 := HO6.out.alloc (.cells #[.int .u8 s] 5)
            have hsz8 := HB7.out.size
            clear hBA
            go_wp2_with (at_builtin; refine wpList_ab rfl _ _ rfl w.heap.size _ 127 l1 rfl hO8 _ 1 1 [s] _ _ rfl hB8 (by omega) (by simp; omega) ?_; intro v9 w9 hO9 hg9)
            go_ret
            refine ⟨_, rfl, ?_, (HB7.out.alloc hsz8 _).grown hg9 (by simp; omega) (fun g e => (hO8.lt g e).1)⟩
            rw [HP.out, List.length_append, HLL.out]
            exact hO9
    · have hok' : bodyOk 1 998 p = false := by simpa using hok
      go_enter Try.func30, Try.ntmps30
      go_wp2_with (go_at_call 62; refine (l2Body_any p hf ka kc ea ec 1 998 (by omega) _ A B (by simp; omega) (hK.below (hb0.mono hB)) (hE.below (hb0.mono hB))).mono ?_; rintro e w1 ⟨rfl, hb1⟩; have hB2 := hb0.trans (hb1.mono (by simp)); have HX1 := eb_call (heap_alloc_new w _) hb1; obtain ⟨c5, c6, c0, c2, c3, c4, c7, c8, c1⟩ := box_slice HX1)
      go_ret
      refine ⟨_, rfl, ?_, hB2.alloc hB2.size _⟩
      rw [oldCodeOf, if_neg (by simp [hok'])]
      exact World.ownsRow_made w1 #[] 0 hB2.size (by unfold maxLen; omega) (by simp)
  · have st : (p.tx != 0) = true := by simpa using htx
    have HT : Hid (¬ p.tx = 0) := htx
    clear htx
    go_enter Try.func30, Try.ntmps30
    go_wp2
    go_ret
    refine ⟨_, rfl, ?_, hb0.alloc (by simp) _⟩
    rw [oldCodeOf, if_neg (fun h => HT.out h.1)]
    have h := World.ownsRow_made (base := w.heap.size) (e := 5) (size := 1) (w.alloc (.cells #[.int .i64 p.kind, .int .i64 p.tx, .int .i64 p.id, .int .i64 p.root, .int .i64 p.count, .slice ka p.ks.length kc, .slice ea p.es.length ec, .int .i64 p.next, .string p.data] 65)) #[] 0 (by simp) (by unfold maxLen; omega) (by simp)
    simpa [u8s] using h
end Go.Proofs.Ytpiadgjkljdbcaa
