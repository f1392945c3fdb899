import Derived.Test.YtpmagndofiaooaaTuf
namespace Go.Proofs.Ytpmagndofiaooaa
open Go.RowKit
set_option linter.unusedVariables false
set_option linter.unusedSimpArgs false
set_option maxRecDepth 100000

set_option maxHeartbeats 1000000 in
/-- A whole node is told. -/
theorem told_any {t : T} {ty : TypeId} {v : Value} {P : Nat → Prop} (w : World) (hw : t.whole = true) (hG : GIs w P t (.iface ty v)) (hP : ∀ b, P b → b < w.heap.size) (hn : t.nodes ≤ 10000000) :
    Calls Try.prog 37 #[.iface ty v] w fun e w' => ∃ oa oc us, e = .returned (.agg #[.slice oa t.nodes oc]) ∧ OwnT w' w.heap.size (.slice oa t.nodes oc) ((t.flat 0).map TN.nd) us ∧ Below w.heap.size w w' := by
  obtain ⟨W, hW⟩ : ∃ W, W = w.alloc (.cells #[.slice none 0 0] 26) := ⟨_, rfl⟩
  have hb1 : Below w.heap.size w W := by rw [hW]; exact (Below.refl _ _).alloc (Nat.le_refl _) _
  have hs1 : W.heap.size = w.heap.size + 1 := by rw [hW]; simp
  have hx : W.heap[w.heap.size]? = some (.cells #[.slice none 0 0] 26) := by rw [hW]; exact heap_alloc_new w _
  have hG1 : GIs W (fun b => b < w.heap.size) t (.iface ty v) := GIs.keep (fun b hp => hb1.block b (hP b hp)) hP t _ hG
  obtain ⟨ha, f, r, hmt, hcf, hcall⟩ := GIs.tell (base := W.heap.size) (P := fun b => b < w.heap.size) (fun b hp => by have : b < w.heap.size := hp; omega) t ty v hw hG1
  have hcall2 := hcall W (Below.refl _ _) none 0 0 [] (fun _ _ => .slice none 0 0) (OwnT.nil _ _ _) rfl (by omega) (Nat.le_refl _)
  have hcf2 := hcf (.slice none 0 0)
  clear hcall hcf hG1 hG
  go_enter Try.func37, Try.ntmps37
  go_upto_region 1 with fail
  rw [← hW]
  have HS1 : Hid (W.heap.size = w.heap.size + 1) := hs1
  clear hW hs1
  go_wp2_with fail
  refine hcall2.mono ?_
  rintro ex w9 ⟨oa, oc, us, rfl, hO, hF⟩
  have hO1 : OwnT w9 (w.heap.size + 1) (.slice oa t.nodes oc) ((t.flat 0).map TN.nd) us := by rw [HS1.out, Nat.zero_add, List.nil_append] at hO; exact hO
  rw [Nat.zero_add]
  have hx9 := boxT_fr hx hF (by have := HS1.out; omega)
  have hl9 := (Array.getElem?_eq_some_iff.1 hx9).1
  have c9 : w9.cell? ⟨w.heap.size, 0, none⟩ = some (.slice none 0 0) := by simp [World.cell?, hx9]
  have z9 := box_fz hx9 0
  have hb9 : Below w.heap.size w w9 := hb1.trans (hF.below (by have := HS1.out; omega) (fun b e => by have := HS1.out; omega))
  have F10 := fr_setT w9 w.heap.size 0 (.slice oa t.nodes oc)
  have hO2 : OwnT (w9.setCell ⟨w.heap.size, 0, none⟩ (.slice oa t.nodes oc)) w.heap.size (.slice oa t.nodes oc) ((t.flat 0).map TN.nd) us := (hO1.fr F10 (fun g hg e => by have := (hO1.blk hg).1; omega)).lower (by omega)
  have hb10 : Below w.heap.size w (w9.setCell ⟨w.heap.size, 0, none⟩ (.slice oa t.nodes oc)) := hb9.trans (F10.below (by omega) (fun b e => by omega))
  have HOO : Hid (OwnT (w9.setCell ⟨w.heap.size, 0, none⟩ (.slice oa t.nodes oc)) w.heap.size (.slice oa t.nodes oc) ((t.flat 0).map TN.nd) us) := hO2
  have x10 : (w9.setCell ⟨w.heap.size, 0, none⟩ (.slice oa t.nodes oc)).cell? ⟨w.heap.size, 0, none⟩ = some (.slice oa t.nodes oc) := by simp [World.cell?, World.setCell, Array.getElem?_modify, hx9]
  clear hO hO1 hO2 hF hx F10 hx9
  go_wp2_with fail
  exact bodyPost_ret (v := .agg #[.slice oa t.nodes oc]) (by simp [results, Try.results37, go_sem, x10]) rfl ⟨oa, oc, us, rfl, HOO.out, hb10⟩
theorem GIs.bare (w : World) (L : Nat) (h : w.heap[L]? = some (.cells #[.int .i64 0, .slice none 0 0] 98)) : GIs w (fun b => b < w.heap.size) (leafB []) (.iface 94 (.pointer (some ⟨L, 0, none⟩))) :=
  GLeaf.is ⟨(Array.getElem?_eq_some_iff.1 h).1, h, ⟨rfl, Nat.le_refl _, by unfold maxLen; omega, fun hn => absurd hn (by omega)⟩, rfl⟩ rfl
set_option maxHeartbeats 1000000 in
theorem implNewU_any (w : World) : Calls Try.prog 34 #[] w fun e w' => ∃ oa oc us, e = .returned (.agg #[.slice oa 1 oc]) ∧ OwnT w' w.heap.size (.slice oa 1 oc) [TN.nd ⟨true, 0, [], [], [], []⟩] us ∧ Below w.heap.size w w' := by
  obtain ⟨W, hW⟩ : ∃ W, W = (w.alloc (.cells #[.slice none 0 0] 26)).alloc (.cells #[.int .i64 0, .slice none 0 0] 98) := ⟨_, rfl⟩
  have hb1 : Below w.heap.size w W := by rw [hW]; exact ((Below.refl _ _).alloc (Nat.le_refl _) _).alloc (by simp) _
  have hL : W.heap[w.heap.size + 1]? = some (.cells #[.int .i64 0, .slice none 0 0] 98) := by
    rw [hW]
    have := heap_alloc_new (w.alloc (.cells #[.slice none 0 0] 26)) (.cells #[.int .i64 0, .slice none 0 0] 98)
    rwa [show (w.alloc (.cells #[.slice none 0 0] 26)).heap.size = w.heap.size + 1 by simp] at this
  have hx : W.heap[w.heap.size]? = some (.cells #[.slice none 0 0] 26) := by
    rw [hW]
    exact (((Below.refl (w.alloc (.cells #[.slice none 0 0] 26)).heap.size _).alloc (Nat.le_refl _) _).block w.heap.size (by simp)).trans (heap_alloc_new w _)
  have hok := leafB_ok (c := []) (by simp)
  have hT := told_any W hok.1 (GIs.bare W _ hL) (fun b h => h) (by rw [hok.2.2]; omega)
  rw [hok.2.2] at hT
  have hsW : w.heap.size < W.heap.size := (Array.getElem?_eq_some_iff.1 hx).1
  clear hL hok
  go_enter Try.func34, Try.ntmps34
  go_wp2_with fail
  rw [← hW]
  clear hW
  refine hT.mono ?_
  rintro ex w9 ⟨oa, oc, us, rfl, hO', hB⟩
  have hO : OwnT w9 W.heap.size (.slice oa 1 oc) [TN.nd ⟨true, 0, [], [], [], []⟩] us := by
    have e : (leafB []).flat 0 = [⟨true, 0, [], [], [], []⟩] := by rw [T.flat_eq]; rfl
    rw [e] at hO'; exact hO'
  clear hO'
  have hx9 := boxT_below hx hB
  have hl9 := (Array.getElem?_eq_some_iff.1 hx9).1
  have c9 : w9.cell? ⟨w.heap.size, 0, none⟩ = some (.slice none 0 0) := by simp [World.cell?, hx9]
  have z9 := box_fz hx9 0
  have F10 := fr_setT w9 w.heap.size 0 (.slice oa 1 oc)
  have hO2 : OwnT (w9.setCell ⟨w.heap.size, 0, none⟩ (.slice oa 1 oc)) w.heap.size (.slice oa 1 oc) [TN.nd ⟨true, 0, [], [], [], []⟩] us := (hO.fr F10 (fun g hg e => by have := (hO.blk hg).1; omega)).lower (by omega)
  have hb10 : Below w.heap.size w (w9.setCell ⟨w.heap.size, 0, none⟩ (.slice oa 1 oc)) := (hb1.trans (hB.mono hb1.size)).trans (F10.below (by omega) (fun b e => by omega))
  have x10 : (w9.setCell ⟨w.heap.size, 0, none⟩ (.slice oa 1 oc)).cell? ⟨w.heap.size, 0, none⟩ = some (.slice oa 1 oc) := by simp [World.cell?, World.setCell, Array.getElem?_modify, hx9]
  have HOO : Hid (OwnT (w9.setCell ⟨w.heap.size, 0, none⟩ (.slice oa 1 oc)) w.heap.size (.slice oa 1 oc) [TN.nd ⟨true, 0, [], [], [], []⟩] us) := hO2
  clear hO hO2 hB hx F10 hx9
  go_wp2_with fail
  exact bodyPost_ret (v := .agg #[.slice oa 1 oc]) (by simp [results, Try.results34, go_sem, x10]) rfl ⟨oa, oc, us, rfl, HOO.out, hb10⟩
theorem isKeyU_any (s : ByteArray) (w : World) : Calls Try.prog 33 #[.string s] w fun e w' => e = .returned (.bool (kyB s)) ∧ w' = w := by
  by_cases t1 : 1 ≤ s.size
  · by_cases t2 : s.size ≤ 8
    · have HE : Hid (kyB s = true) := by show _ = _; simp [kyB]; omega
      have d2 : decide ((s.size : Int) ≤ 8) = true := by simp; omega
      go_enter Try.func33, Try.ntmps33
      go_wp2
      go_ret
      exact ⟨by rw [HE.out]; rfl, rfl⟩
    · have HE : Hid (kyB s = false) := by show _ = _; simp [kyB]; omega
      have d2 : decide ((s.size : Int) ≤ 8) = false := by simp; omega
      go_enter Try.func33, Try.ntmps33
      go_wp2
      go_ret
      exact ⟨by rw [HE.out]; rfl, rfl⟩
  · have HE : Hid (kyB s = false) := by show _ = _; simp [kyB]; omega
    go_enter Try.func33, Try.ntmps33
    go_wp2
    go_ret
    exact ⟨by rw [HE.out]; rfl, rfl⟩
end Go.Proofs.Ytpmagndofiaooaa
