import Derived.Test.YtcmhobbpeaeebaaSbN
namespace Go.Proofs.Ytcmhobbpeaeebaa
namespace New
open Go.RowKit
set_option linter.unusedVariables false
set_option maxRecDepth 100000

def sEnts (L : List Int) : Nat → Option Nat × List PE
  | 0 => (some 0, [])
  | i + 1 => ((sEnt L (sEnts L i).1).1, (sEnts L i).2 ++ [(sEnt L (sEnts L i).1).2])
/-- append(v, entry). -/
theorem wpList_ent {w : World} {ops : Array Oper} {rest : List Oper} {o : Oper} {a : Act} {Q : Exit → Act → World → Prop} (hgd : o.guard = none) (s x : Operand)
    (ho : o.op = .call { callee := .builtin .append, args := #[s, x], argTypes := #[26, 26] })
    (base : Nat) (v : Value) (n : Nat) (xs : List Value) (hs : a.eval s = v) (hown : w.ownsRow base 102 4 v n xs)
    (g : Nat) (u1 u2 : ByteArray) (u3 u4 : Int) (hx : a.eval x = .slice (some ⟨g, 0, none⟩) 1 1) (hg : w.heap[g]? = some (.cells #[.string u1, .string u2, .int .i64 u3, .int .i64 u4] 102)) (hn : n ≤ 1000000) (hbase : base ≤ w.heap.size)
    (h : ∀ v' w', w'.ownsRow base 102 4 v' (n + 1) (xs ++ entCells (u1, u2, u3, u4)) → w.grownBy w' v.ownBlock → wpList Try.prog ops Q rest (a.put o.dst v') w') : wpList Try.prog ops Q (o :: rest) a w := by
  obtain ⟨i0, hi, hz0, hz1, hz2⟩ := info_parts info_Ent
  refine wpList_append_own w hgd s x 26 ho base 102 i0 _ 4 48 Try.underlying26 hi hz0 hz1 hz2 rfl (by decide) v n xs hs hown ⟨g, 0, none⟩ 1 1 (entCells (u1, u2, u3, u4)) hx rfl ?_ ?_ (by unfold maxLen; omega) (by omega) hbase ?_
  · intro j u hj
    have e : (⟨g, 0, none⟩ : Addr).add j = ⟨g, j, none⟩ := by simp [Addr.add]; omega
    rw [e]
    rcases j with _ | _ | _ | _ | j
    all_goals first
      | (simp [entCells] at hj; done)
      | (simp [entCells] at hj; subst hj; simp [World.cell?, hg])
  · intro u hu; simp [entCells] at hu; rcases hu with rfl | rfl | rfl | rfl <;> rfl
  · intro v' w' h1 h2 _
    exact h v' w' h1 h2
def put4 (w : World) (K : Nat) (u0 u1 u2 u3 : Value) : World := (((w.setCell ⟨K, 0, none⟩ u0).setCell ⟨K, 1, none⟩ u1).setCell ⟨K, 2, none⟩ u2).setCell ⟨K, 3, none⟩ u3
theorem put4_fr (w : World) (K : Nat) (u0 u1 u2 u3 : Value) : Fr (fun x => x = K) w (put4 w K u0 u1 u2 u3) := (((set_fr _ _ _ _).trans (set_fr _ _ _ _)).trans (set_fr _ _ _ _)).trans (set_fr _ _ _ _)
set_option maxHeartbeats 3200000 in
theorem l2ReadBody_leaf (L : List Int) (n : Nat) (hn : n ≤ 255) (a : Option Addr) (c : Nat) (w : World) (A B : Nat) (hB : BytesAt w A B a L.length c L) (hBw : B ≤ w.heap.size) :
    Calls Try.prog 49 #[.int .i64 3, .int .i64 n, .slice a L.length c, .agg #[.bool false, .int .i64 (smallN false), .bool false]] w fun e w' => ∃ va vc, e = .returned (.tuple #[.agg #[.int .i64 3, .int .i64 0, .int .i64 0, .int .i64 0, .int .i64 0, .slice none 0 0, .slice va n vc, .int .i64 0, .string ⟨#[]⟩], .bool (sEnts L n).1.isSome]) ∧ w'.ownsRow w.heap.size 102 4 (.slice va n vc) n (rowsOf entCells (sEnts L n).2) ∧ Below w.heap.size w w' := by
  go_enter Try.func49, Try.ntmps49
  go_wp2_with fail
  have st0 := bs_start 3 L a c w A B hB hBw
  generalize (((((w.alloc (.cells #[.bool false, .int .i64 (smallN false), .bool false] 63)).alloc (.cells #[.int .i64 0, .int .i64 0, .int .i64 0, .int .i64 0, .int .i64 0, .slice none 0 0, .slice none 0 0, .int .i64 0, .string ⟨#[]⟩] 28)).alloc (.cells #[.int .i64 3, .int .i64 0, .int .i64 0, .int .i64 0, .int .i64 0, .slice none 0 0, .slice none 0 0, .int .i64 0, .string ⟨#[]⟩] 28)).alloc (.cells #[.slice a L.length c, .bool false] 119)).alloc (.cells #[] 5)) = w0 at st0 ⊢
  go_loopw [15] (fun iv wr => ∃ i : Nat, i ≤ n ∧ iv = .int .i64 i ∧ Hid (∃ sa sn sc bad va vc, BS w L A B wr (sEnts L i).1 sa sn sc bad (.int .i64 3) (.int .i64 0) (.int .i64 0) (.int .i64 0) (.int .i64 0) (.slice none 0 0) (.slice va i vc) (.int .i64 0) (.string ⟨#[]⟩) ∧ wr.ownsRow (w.heap.size + 4) 102 4 (.slice va i vc) i (rowsOf entCells (sEnts L i).2))) (fun iv _ => n - (intOf iv).toNat)
  case atStart => exact ⟨0, Nat.zero_le _, rfl, ⟨_, _, _, _, _, _, st0, World.ownsRow_nil _ _ _ _⟩⟩
  case round =>
    obtain ⟨i, hi, rfl, ⟨sa, sn, sc, bad, va, vc, st, hO⟩⟩ := hrel
    clear st0
    by_cases hlt : i < n
    · have hbK : Below wr.heap.size wr (wr.alloc (.cells #[.string ⟨#[]⟩, .string ⟨#[]⟩, .int .i64 0, .int .i64 0] 102)) := (Below.refl _ _).alloc (Nat.le_refl _) _
      have st1 := st.call hbK
      have hO1 := owns_below hO hbK
      have HK1 := heap_alloc_new wr (.cells #[.string ⟨#[]⟩, .string ⟨#[]⟩, .int .i64 0, .int .i64 0] 102)
      have hwl := st.lt
      have hS1 : wr.heap.size < (wr.alloc (.cells #[.string ⟨#[]⟩, .string ⟨#[]⟩, .int .i64 0, .int .i64 0] 102)).heap.size := by simp
      have hKO : ∀ g', (Value.slice va i vc).ownBlock = some g' → g' ≠ wr.heap.size := fun g' e e' => by have := (hO.lt g' e).2; omega
      obtain ⟨p0, p1⟩ := box_two2 st.sb
      obtain ⟨g0, g1, g2⟩ := box_form st.fb
      have ltN : w.heap.size + 1 + 1 + 1 < wr.heap.size := hwl
      have ltN0 : w.heap.size < wr.heap.size := by omega
      clear hbK hO
      generalize hs0 : (sEnts L i).1 = s0 at st st1
      have HS0 : Hid ((sEnts L i).1 = s0) := hs0
      clear hs0
      go_wp2_with fail
      generalize wr.alloc (.cells #[.string ⟨#[]⟩, .string ⟨#[]⟩, .int .i64 0, .int .i64 0] 102) = W1 at st1 hO1 HK1 hS1 ⊢
      generalize wr.heap.size = K at HK1 hS1 hKO hwl ltN ltN0 ⊢
      clear p0 p1 g0 g1 g2 st
      have HC := l2ReadEnt_any L s0 sa sn sc bad W1 A B st1.src (by have := st1.low; have := st1.lt; omega)
      have HSE : Hid (sEnts L (i + 1) = ((sEnt L s0).1, (sEnts L i).2 ++ [(sEnt L s0).2])) := by show sEnts L (i + 1) = _; rw [sEnts, HS0.out]
      generalize sEnt L s0 = se at HC HSE
      obtain ⟨s1, e1, e2, e3, e4⟩ := se
      dsimp only at HC HSE
      refine HC.mono ?_
      clear HC
      rintro e w2 ⟨ta, tn, tc, bad2, rfl, hs2, hb2⟩
      have st2 := st1.call hb2
      have hO2 := owns_below hO1 hb2
      have HK2 := eb_call HK1 hb2
      obtain ⟨x0, x1⟩ := box_two2 st2.sb
      have fx := box_frozen st2.sb
      obtain ⟨k0, k1, k2, k3⟩ := box_four HK2
      have fk := box_frozen HK2
      have hsz2 := hb2.size
      have st3 := st2.sput hs2
      have hO3 := owns_set (owns_set hO2 (p := ⟨w.heap.size + 1 + 1 + 1, 0, none⟩) (fun g' e => by have := (hO2.lt g' e).1; show w.heap.size + 1 + 1 + 1 ≠ g'; omega) (.slice ta tn tc)) (p := ⟨w.heap.size + 1 + 1 + 1, 1, none⟩) (fun g' e => by have := (hO2.lt g' e).1; show w.heap.size + 1 + 1 + 1 ≠ g'; omega) (.bool bad2)
      have HK3 : ((w2.setCell ⟨w.heap.size + 1 + 1 + 1, 0, none⟩ (.slice ta tn tc)).setCell ⟨w.heap.size + 1 + 1 + 1, 1, none⟩ (.bool bad2)).heap[K]? = _ := ((Below.heap_setCell _ ⟨w.heap.size + 1 + 1 + 1, 1, none⟩ _ K (by show K ≠ w.heap.size + 1 + 1 + 1; omega)).trans (Below.heap_setCell _ ⟨w.heap.size + 1 + 1 + 1, 0, none⟩ _ K (by show K ≠ w.heap.size + 1 + 1 + 1; omega))).trans HK2
      have st4 : BS w L A B (put4 ((w2.setCell ⟨w.heap.size + 1 + 1 + 1, 0, none⟩ (.slice ta tn tc)).setCell ⟨w.heap.size + 1 + 1 + 1, 1, none⟩ (.bool bad2)) K (.string e1) (.string e2) (.int .i64 e3) (.int .i64 e4)) s1 ta tn tc bad2 (.int .i64 3) (.int .i64 0) (.int .i64 0) (.int .i64 0) (.int .i64 0) (.slice none 0 0) (.slice va i vc) (.int .i64 0) (.string ⟨#[]⟩) := st3.keepS (put4_fr _ K (.string e1) (.string e2) (.int .i64 e3) (.int .i64 e4)) (fun x hx => by omega)
      have hO4 : (put4 ((w2.setCell ⟨w.heap.size + 1 + 1 + 1, 0, none⟩ (.slice ta tn tc)).setCell ⟨w.heap.size + 1 + 1 + 1, 1, none⟩ (.bool bad2)) K (.string e1) (.string e2) (.int .i64 e3) (.int .i64 e4)).ownsRow (w.heap.size + 4) 102 4 (.slice va i vc) i (rowsOf entCells (sEnts L i).2) := owns_fr hO3 (put4_fr _ K (.string e1) (.string e2) (.int .i64 e3) (.int .i64 e4)) (fun g' e e' => hKO g' e e')
      have hbL : Below (put4 ((w2.setCell ⟨w.heap.size + 1 + 1 + 1, 0, none⟩ (.slice ta tn tc)).setCell ⟨w.heap.size + 1 + 1 + 1, 1, none⟩ (.bool bad2)) K (.string e1) (.string e2) (.int .i64 e3) (.int .i64 e4)).heap.size (put4 ((w2.setCell ⟨w.heap.size + 1 + 1 + 1, 0, none⟩ (.slice ta tn tc)).setCell ⟨w.heap.size + 1 + 1 + 1, 1, none⟩ (.bool bad2)) K (.string e1) (.string e2) (.int .i64 e3) (.int .i64 e4)) ((put4 ((w2.setCell ⟨w.heap.size + 1 + 1 + 1, 0, none⟩ (.slice ta tn tc)).setCell ⟨w.heap.size + 1 + 1 + 1, 1, none⟩ (.bool bad2)) K (.string e1) (.string e2) (.int .i64 e3) (.int .i64 e4)).alloc (.cells #[.string e1, .string e2, .int .i64 e3, .int .i64 e4] 102)) := (Below.refl _ _).alloc (Nat.le_refl _) _
      have HOL : Hid (((put4 ((w2.setCell ⟨w.heap.size + 1 + 1 + 1, 0, none⟩ (.slice ta tn tc)).setCell ⟨w.heap.size + 1 + 1 + 1, 1, none⟩ (.bool bad2)) K (.string e1) (.string e2) (.int .i64 e3) (.int .i64 e4)).alloc (.cells #[.string e1, .string e2, .int .i64 e3, .int .i64 e4] 102)).ownsRow (w.heap.size + 4) 102 4 (.slice va i vc) i (rowsOf entCells (sEnts L i).2)) := owns_below hO4 hbL
      have hsz4 : (put4 ((w2.setCell ⟨w.heap.size + 1 + 1 + 1, 0, none⟩ (.slice ta tn tc)).setCell ⟨w.heap.size + 1 + 1 + 1, 1, none⟩ (.bool bad2)) K (.string e1) (.string e2) (.int .i64 e3) (.int .i64 e4)).heap.size = w2.heap.size := by simp [put4, World.setCell]
      have HGL : Hid (((put4 ((w2.setCell ⟨w.heap.size + 1 + 1 + 1, 0, none⟩ (.slice ta tn tc)).setCell ⟨w.heap.size + 1 + 1 + 1, 1, none⟩ (.bool bad2)) K (.string e1) (.string e2) (.int .i64 e3) (.int .i64 e4)).alloc (.cells #[.string e1, .string e2, .int .i64 e3, .int .i64 e4] 102)).heap[w2.heap.size]? = some (.cells #[.string e1, .string e2, .int .i64 e3, .int .i64 e4] 102)) := by show _ = _; rw [← hsz4]; exact heap_alloc_new _ _
      clear hsz4
      have HST : Hid (BS w L A B ((put4 ((w2.setCell ⟨w.heap.size + 1 + 1 + 1, 0, none⟩ (.slice ta tn tc)).setCell ⟨w.heap.size + 1 + 1 + 1, 1, none⟩ (.bool bad2)) K (.string e1) (.string e2) (.int .i64 e3) (.int .i64 e4)).alloc (.cells #[.string e1, .string e2, .int .i64 e3, .int .i64 e4] 102)) s1 ta tn tc bad2 (.int .i64 3) (.int .i64 0) (.int .i64 0) (.int .i64 0) (.int .i64 0) (.slice none 0 0) (.slice va i vc) (.int .i64 0) (.string ⟨#[]⟩)) := st4.call hbL
      have q6 : ((w2.setCell ⟨w.heap.size + 1 + 1 + 1, 0, none⟩ (.slice ta tn tc)).setCell ⟨w.heap.size + 1 + 1 + 1, 1, none⟩ (.bool bad2)).cell? ⟨w.heap.size + 1 + 1, 6, none⟩ = some (.slice va i vc) := (box_slice st3.pb).2.1
      have hKN : ¬ w.heap.size + 1 + 1 + 1 = K := by omega
      have hKN' : ¬ K = w.heap.size + 1 + 1 + 1 := by omega
      have hKM : ¬ w.heap.size + 1 + 1 = K := by omega
      have hKM' : ¬ K = w.heap.size + 1 + 1 := by omega
      clear st1 hO1 HK1 hO2 hs2 hb2 st2 HK2 hO3 HK3 st3 st4 hO4 hbL hKO
      go_wp2_with (at_builtin; refine wpList_ent rfl _ _ rfl (w.heap.size + 4) (.slice va i vc) i (rowsOf entCells (sEnts L i).2) rfl HOL.out w2.heap.size e1 e2 e3 e4 rfl HGL.out (by omega) HST.out.lt ?_; intro v6 w6 hO6 hg6; obtain ⟨va6, vc6, rfl⟩ := own_shape hO6; have st6 := HST.out.keepS (Fr.of_grown hg6) (fun x hx => by have := (HOL.out.lt x hx).1; omega); obtain ⟨r5, r6, r0, r2, r3, r4, r7, r8, r1⟩ := box_slice st6.pb; have fe := box_frozen st6.pb; have HO6 : Hid (w6.ownsRow (w.heap.size + 4) 102 4 (.slice va6 (i + 1) vc6) (i + 1) (rowsOf entCells (sEnts L i).2 ++ entCells (e1, e2, e3, e4))) := hO6; have HST6 : Hid _ := st6; clear hO6 hg6 st6)
      go_roundw
      case rel =>
        refine ⟨i + 1, by omega, by go_num, ⟨ta, tn, tc, bad2, va6, vc6, ?_, ?_⟩⟩
        · rw [HSE.out]; exact HST6.out.pput 6 (.slice va6 (i + 1) vc6) (.int .i64 3) (.int .i64 0) (.int .i64 0) (.int .i64 0) (.int .i64 0) (.slice none 0 0) (.slice va6 (i + 1) vc6) (.int .i64 0) (.string ⟨#[]⟩) rfl
        · rw [HSE.out, rows_snoc]; exact owns_set HO6.out (p := ⟨w.heap.size + 1 + 1, 6, none⟩) (fun g' e => by have := (HO6.out.lt g' e).1; show w.heap.size + 1 + 1 ≠ g'; omega) _
      case measure => simp [intOf]; omega
    · obtain rfl : i = n := by omega
      go_wp2_with fail
      obtain ⟨p0, p1⟩ := box_two2 st.sb
      obtain ⟨r5, r6, r0, r2, r3, r4, r7, r8, r1⟩ := box_slice st.pb
      have fr := box_frozen st.rb
      obtain ⟨y5, y6, y0, y2, y3, y4, y7, y8, y1⟩ := box_slice st.rb
      go_region_held3 (fun w' => w'.cell? ⟨w.heap.size + 1 + 1 + 1, 1, none⟩ = some (.bool bad) ∧ w'.cell? ⟨w.heap.size + 1 + 1, 0, none⟩ = some (.int .i64 3) ∧ w'.cell? ⟨w.heap.size + 1 + 1, 1, none⟩ = some (.int .i64 0) ∧ w'.cell? ⟨w.heap.size + 1 + 1, 2, none⟩ = some (.int .i64 0) ∧ w'.cell? ⟨w.heap.size + 1 + 1, 3, none⟩ = some (.int .i64 0) ∧ w'.cell? ⟨w.heap.size + 1 + 1, 4, none⟩ = some (.int .i64 0) ∧ w'.cell? ⟨w.heap.size + 1 + 1, 5, none⟩ = some (.slice none 0 0) ∧ w'.cell? ⟨w.heap.size + 1 + 1, 6, none⟩ = some (.slice va i vc) ∧ w'.cell? ⟨w.heap.size + 1 + 1, 7, none⟩ = some (.int .i64 0) ∧ w'.cell? ⟨w.heap.size + 1 + 1, 8, none⟩ = some (.string ⟨#[]⟩)) (go_keep) (fail)
      all_goals
        go_wp2
        show bodyPost _ _ _ _ _ (put9 wr (w.heap.size + 1) (.int .i64 3) (.int .i64 0) (.int .i64 0) (.int .i64 0) (.int .i64 0) (.slice none 0 0) (.slice va i vc) (.int .i64 0) (.string ⟨#[]⟩)).drew
        clear r0 r1 r2 r3 r4 r5 r6 r7 r8 y0 y1 y2 y3 y4 y5 y6 y7 y8
        obtain ⟨r5, r6, r0, r2, r3, r4, r7, r8, r1⟩ := box_slice (w := (put9 wr (w.heap.size + 1) (.int .i64 3) (.int .i64 0) (.int .i64 0) (.int .i64 0) (.int .i64 0) (.slice none 0 0) (.slice va i vc) (.int .i64 0) (.string ⟨#[]⟩)).drew) (N := w.heap.size + 1) ((drew_heap _ _).trans (put9_box st.rb (.int .i64 3) (.int .i64 0) (.int .i64 0) (.int .i64 0) (.int .i64 0) (.slice none 0 0) (.slice va i vc) (.int .i64 0) (.string ⟨#[]⟩)))
        have hbe : Below w.heap.size w (put9 wr (w.heap.size + 1) (.int .i64 3) (.int .i64 0) (.int .i64 0) (.int .i64 0) (.int .i64 0) (.slice none 0 0) (.slice va i vc) (.int .i64 0) (.string ⟨#[]⟩)).drew := (st.bel.trans ((put9_fr wr (w.heap.size + 1) (.int .i64 3) (.int .i64 0) (.int .i64 0) (.int .i64 0) (.int .i64 0) (.slice none 0 0) (.slice va i vc) (.int .i64 0) (.string ⟨#[]⟩)).below st.bel.size (fun g e => by omega))).drew
        have hbd := SrcAt.badly st.src
        refine bodyPost_ret (v := .tuple #[.agg #[.int .i64 3, .int .i64 0, .int .i64 0, .int .i64 0, .int .i64 0, .slice none 0 0, .slice va i vc, .int .i64 0, .string ⟨#[]⟩], .bool (!bad)]) (by simp [results, Try.results49, go_sem, r0, r1, r2, r3, r4, r5, r6, r7, r8]) rfl ?_
        exact ⟨va, vc, by rw [hbd], (owns_base (owns_fr hO (put9_fr wr (w.heap.size + 1) (.int .i64 3) (.int .i64 0) (.int .i64 0) (.int .i64 0) (.int .i64 0) (.slice none 0 0) (.slice va i vc) (.int .i64 0) (.string ⟨#[]⟩)) (fun g' e e' => by have := (hO.lt g' e).1; omega)) (by omega)).drew, hbe⟩
end New
end Go.Proofs.Ytcmhobbpeaeebaa
