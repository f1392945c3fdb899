import Derived.Test.YtakdaandbdbdnaaCRL
import Derived.Test.YtakdaandbdbdnaaCrs
namespace Go.Proofs.Ytakdaandbdbdnaa
open Go.RowKit
set_option linter.unusedVariables false
set_option maxRecDepth 100000

theorem doP_names2 {M : Nat} {fs : List PF} {nm : ByteArray} {pg : Nat} {bs : List Int} (h : ∀ f ∈ fs, f.1.size ≤ M) (hn : nm.size ≤ M) : ∀ f ∈ doP fs nm pg bs, f.1.size ≤ M := by
  intro f hf
  unfold doP at hf
  rcases List.mem_or_eq_of_mem_set hf with h1 | h1
  · unfold withName at h1
    split at h1
    · exact h f h1
    · rcases List.mem_append.1 h1 with h2 | h2
      · exact h f (List.mem_of_mem_take h2)
      · rcases List.mem_cons.1 h2 with h3 | h3
        · rw [h3]; exact hn
        · exact h f (List.mem_of_mem_drop h3)
  · rw [h1]; exact hn
theorem wFiles_sum {K : Int} : ∀ L : List PF, (∀ f ∈ L, wFile f ≤ K) → wFiles L ≤ L.length * K
  | [], _ => by simp [wFiles]
  | f :: r, h => by
    have h1 := wFiles_sum r (fun g hg => h g (List.mem_cons_of_mem _ hg))
    have h2 := h f List.mem_cons_self
    simp only [wFiles, List.length_cons]
    rw [show (((r.length + 1 : Nat)) : Int) * K = r.length * K + K by rw [Int.natCast_add, Int.add_mul]; simp]
    omega
theorem crF_ok {tr ta cp : Int} {ks : List Bool} {M : Nat} : ∀ (ps : List PP) (k : Nat) (fk gk : List PF), (∀ f ∈ fk, f.1.size ≤ M) → (∀ p ∈ ps, p.1.size ≤ M) → Und fk gk → Inv fk → Inv gk → gk.length ≤ 12 → totalI gk ≤ cp → cacheS cp ps gk = true → (∀ f ∈ crF tr ta ks k ps fk, f.1.size ≤ M) ∧ (crF tr ta ks k ps fk).length ≤ 12 ∧ ∀ j, j < (crF tr ta ks k ps fk).length → (((crF tr ta ks k ps fk).getD j (ByteArray.empty, [])).2.length : Int) ≤ cp * 128
  | [], k, fk, gk, h1, h2, hu, hi, hj, hl, ht, hc => ⟨h1, Nat.le_trans (hu.len hi hj) hl, hu.small hi ht⟩
  | p :: r, k, fk, gk, h1, h2, hu, hi, hj, hl, ht, hc => by
    simp only [cacheS, fitsB, Bool.and_eq_true, decide_eq_true_eq] at hc
    have hp := h2 p List.mem_cons_self
    have h2' : ∀ q ∈ r, q.1.size ≤ M := fun q hq => h2 q (List.mem_cons_of_mem _ hq)
    have hg : Inv (stepP gk p) := doP_inv hj
    simp only [crF, crS]
    split
    · exact crF_ok r _ _ _ (doP_names2 h1 hp) h2' (hu.both hi hj) (doP_inv hi) hg hc.2.1.1 hc.2.1.2 hc.2.2
    · split
      · exact crF_ok r _ _ _ (doP_names2 h1 hp) h2' (hu.both hi hj) (doP_inv hi) hg hc.2.1.1 hc.2.1.2 hc.2.2
      · exact crF_ok r _ _ _ h1 h2' (hu.only hj) hi hg hc.2.1.1 hc.2.1.2 hc.2.2
theorem law_CrashDisk (a : Option Addr) (n c : Nat) (fs : List PF) (b : Option Addr) (m d : Nat) (ps : List PP) (cp fu : Int) (de : Bool) (ka : Option Addr) (kn kc : Nat) (ks : List Bool) (tr ta : Int) (w : World) (hF : FilesAt w 0 w.heap.size a n c fs) (hP : PendsAt w 0 w.heap.size b m d ps) (hK : BoolsAt w 0 w.heap.size ka kn kc ks) :
    Calls Try.prog 5 #[.agg #[.slice a n c, .slice b m d, .int .i64 cp, .int .i64 fu, .bool de], .agg #[.slice ka kn kc, .int .i64 tr, .int .i64 ta]] w fun e w' => e = .returned (.bool true) ∧ Below w.heap.size w w' := by
  refine core_CrashDisk a n c fs b m d ps cp fu de ka kn kc ks tr ta _ _ _ w hF hP hK (fun hall a1 c1 b1 d1 ka1 kc1 W A B hB kF kP kK => implCrash_any a1 n c1 fs b1 m d1 ps cp fu de ka1 kn kc1 ks tr ta W A B hB kF kP kK hall) (fun hall a1 c1 b1 d1 ka1 kc1 W A B hB kF kP kK => specCrash_any a1 n c1 fs b1 m d1 ps cp fu de ka1 kn kc1 ks tr ta W A B hB kF kP kK hall) ?_
  intro h3
  have e1 := hF.1
  have e2 := hP.1
  have w1 := wFiles_nonneg fs
  have w2 := wPends_nonneg ps
  unfold crG
  split
  · rename_i hv
    obtain ⟨q1, q2, q3, q4, q5⟩ := specV_parts (by rw [valid_eq]; exact hv)
    obtain ⟨t1, t2, t3⟩ := crF_ok (tr := tr) (ta := ta) (ks := ks) (M := 1048576) ps 0 fs fs (fun f hf => by
      obtain ⟨i, hi, rfl⟩ := List.getElem_of_mem hf
      have := wFiles_get fs i hi
      simp only [List.getD, List.getElem?_eq_getElem hi, Option.getD_some] at this
      omega) (fun p hp => by
      obtain ⟨i, hi, rfl⟩ := List.getElem_of_mem hp
      have := wPends_get ps i hi
      simp only [List.getD, List.getElem?_eq_getElem hi, Option.getD_some] at this
      omega) (Und.refl fs) (inv_all q5) (inv_all q5) q1 q3 q4
    have hsum := wFiles_sum (K := 1176704) (crF tr ta ks 0 ps fs) (fun f hf => by
      have hnm := t1 f hf
      obtain ⟨i, hi, rfl⟩ := List.getElem_of_mem hf
      have := t3 i hi
      simp only [List.getD, List.getElem?_eq_getElem hi, Option.getD_some] at this
      unfold wFile
      omega)
    have f1 := kF_bound 1 (crF tr ta ks 0 ps fs)
    omega
  · simp [kF]
end Go.Proofs.Ytakdaandbdbdnaa
