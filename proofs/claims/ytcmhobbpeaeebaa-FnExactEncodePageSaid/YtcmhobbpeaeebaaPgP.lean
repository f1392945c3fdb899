import Derived.Test.YtcmhobbpeaeebaaPgT
namespace Go.Proofs.Ytcmhobbpeaeebaa
open Go.RowKit
set_option linter.unusedVariables false
set_option maxRecDepth 100000

set_option maxHeartbeats 800000 in
theorem toPage_any (kind tx id root count : Int) (ka : Option Addr) (kn kc : Nat) (ks : List PK) (ea : Option Addr) (en ec : Nat) (es : List PE) (next : Int) (data : ByteArray) (w : World) (A B : Nat) (hB : B ≤ w.heap.size) (hK : KidsAt w A B ka kn kc ks) (hE : EntsAt w A B ea en ec es) (hkn : kn ≤ 1048576) (hen : en ≤ 1048576) :
    Calls Try.prog 21 #[.agg #[.int .i64 kind, .int .i64 tx, .int .i64 id, .int .i64 root, .int .i64 count, .slice ka kn kc, .slice ea en ec, .int .i64 next, .string data]] w fun e w' => ∃ g h, g ≠ h ∧ e = .returned (.agg #[.int .i64 kind, .int .i64 tx, .int .i64 id, .int .i64 root, .int .i64 count, .slice (some ⟨g, 0, none⟩) kn kn, .slice (some ⟨h, 0, none⟩) en en, .int .i64 next, .string data]) ∧ w'.ownsRow w.heap.size 100 2 (.slice (some ⟨g, 0, none⟩) kn kn) kn (rowsOf kidCells ks) ∧ w'.ownsRow w.heap.size 102 4 (.slice (some ⟨h, 0, none⟩) en en) en (rowsOf entCells es) ∧ Below w.heap.size w w' := by
  go_enter Try.func21, Try.ntmps21
  go_wp2_with fail
  have hb0 : Below w.heap.size w (((w.alloc (.cells #[.int .i64 kind, .int .i64 tx, .int .i64 id, .int .i64 root, .int .i64 count, .slice ka kn kc, .slice ea en ec, .int .i64 next, .string data] 44)).alloc (.cells #[.int .i64 0, .int .i64 0, .int .i64 0, .int .i64 0, .int .i64 0, .slice none 0 0, .slice none 0 0, .int .i64 0, .string { data := #[] }] 28)).alloc (.cells #[.int .i64 kind, .int .i64 tx, .int .i64 0, .int .i64 0, .int .i64 0, .slice none 0 0, .slice none 0 0, .int .i64 0, .string { data := #[] }] 28)) := (((Below.refl _ _).alloc (Nat.le_refl _) _).alloc (by simp) _).alloc (by simp; omega) _
  refine (toMeta_any id root count _).mono ?_
  rintro e w1 ⟨rfl, hb1⟩
  have hz := hb1.size
  simp at hz
  have hz1 : w.heap.size < w1.heap.size := by omega
  have hz2 : w.heap.size + 1 < w1.heap.size := by omega
  have hz3 : w.heap.size + 1 + 1 < w1.heap.size := by omega
  obtain ⟨hc1, hf1⟩ := bcell hb1
  have hb2 := hb0.trans (hb1.mono (by simp; omega))
  clear hb0 hb1
  go_wp2_with fail
  have hb3 := ((hb2.setCell (p := ⟨w.heap.size + 1 + 1, 2, none⟩) (by simp; omega) (.int .i64 id)).setCell (p := ⟨w.heap.size + 1 + 1, 3, none⟩) (by simp; omega) (.int .i64 root)).setCell (p := ⟨w.heap.size + 1 + 1, 4, none⟩) (by simp; omega) (.int .i64 count)
  refine (toKidS_any ka kn kc ks _ A B (Nat.le_trans hB hb3.size) (hK.below (hb3.mono hB)) hkn).mono ?_
  rintro e w2 ⟨g, hg, rfl, hO2, hb4⟩
  have hz4 := hb4.size
  simp at hz4 hg
  have hy1 : w.heap.size < w2.heap.size := by omega
  have hy2 : w.heap.size + 1 < w2.heap.size := by omega
  have hy3 : w.heap.size + 1 + 1 < w2.heap.size := by omega
  obtain ⟨hc2, hf2⟩ := bcell hb4
  have hb5 := hb3.trans (hb4.mono hb3.size)
  clear hb3 hb4 hb2
  go_wp2_with fail
  have hb6 := hb5.setCell (p := ⟨w.heap.size + 1 + 1, 5, none⟩) (by simp; omega) (.slice (some ⟨g, 0, none⟩) kn kn)
  have hO3 := owns_set hO2 (p := ⟨w.heap.size + 1 + 1, 5, none⟩) (fun k hk e => by simp [Value.ownBlock] at hk; simp at e; omega) (.slice (some ⟨g, 0, none⟩) kn kn)
  have hgl := (hO3.lt g rfl).2
  clear hO2
  refine (toEntS_any ea en ec es _ A B (Nat.le_trans hB hb6.size) (hE.below (hb6.mono hB)) hen).mono ?_
  rintro e w3 ⟨h, hh, rfl, hO4, hb7⟩
  have hz7 := hb7.size
  have hgl2 : g < h := by omega
  have hO5 := owns_below hO3 hb7
  simp at hz7 hh
  have hx1 : w.heap.size < w3.heap.size := by omega
  have hx2 : w.heap.size + 1 < w3.heap.size := by omega
  have hx3 : w.heap.size + 1 + 1 < w3.heap.size := by omega
  obtain ⟨hc3, hf3⟩ := bcell hb7
  have hb8 := hb6.trans (hb7.mono hb6.size)
  clear hb7 hb6 hb5 hO3
  go_wp2
  refine bodyPost_ret (v := .agg #[.int .i64 kind, .int .i64 tx, .int .i64 id, .int .i64 root, .int .i64 count, .slice (some ⟨g, 0, none⟩) kn kn, .slice (some ⟨h, 0, none⟩) en en, .int .i64 next, .string data]) (by simp [results, Try.results21, go_sem, hc3, hc2, hc1, hz2, hy2]) rfl ⟨g, h, by omega, rfl, ?_, ?_, ?_⟩
  · iterate 12 refine owns_set ?_ (fun k hk e => by simp [Value.ownBlock] at hk; simp at e; omega) _
    exact owns_base hO5 (by simp; omega)
  · iterate 12 refine owns_set ?_ (fun k hk e => by simp [Value.ownBlock] at hk; simp at e; omega) _
    exact owns_base hO4 (by simp; omega)
  · iterate 12 refine Below.setCell ?_ (by simp <;> omega) _
    exact hb8
end Go.Proofs.Ytcmhobbpeaeebaa
