import Derived.Test.YtmmdkjeoadlikaaMp
import Derived.Test.YtmmdkjeoadlikaaPk
import Derived.Deep.MidRow
import Derived.Deep.WholeRow
import Derived.Deep.QuietTactic
import Derived.BigQuiet
namespace Go.Proofs.Ytmmdkjeoadlikaa
open Go.RowKit Go.Maps
set_option linter.unusedVariables false
set_option maxRecDepth 100000

theorem pageF_take {ds : List Int} {j : Nat} (h : (j + 1) * 128 ≤ ds.length) (pg : Int) : pageF (ds.take ((j + 1) * 128)) pg = if pg = j then some ((ds.drop (j * 128)).take 128) else pageF (ds.take (j * 128)) pg := by
  have e1 : (ds.take ((j + 1) * 128)).length = (j + 1) * 128 := by simp; omega
  have e2 : (ds.take (j * 128)).length = j * 128 := by simp; omega
  unfold pageF
  rw [e1, e2]
  by_cases h1 : pg = j
  · subst h1
    rw [if_pos (by omega), if_pos rfl]
    congr 1
    rw [Int.toNat_natCast, List.drop_take, List.take_take]
    congr 1
    omega
  · rw [if_neg h1]
    by_cases h2 : 0 ≤ pg ∧ pg * 128 + 128 ≤ ((j + 1) * 128 : Nat)
    · obtain ⟨q, rfl⟩ := Int.eq_ofNat_of_zero_le h2.1
      have h3 : q + 1 ≤ j := by omega
      rw [if_pos h2, if_pos (by omega)]
      congr 1
      rw [Int.toNat_natCast, List.drop_take, List.drop_take, List.take_take, List.take_take]
      congr 1
      omega
    · rw [if_neg h2, if_neg (by omega)]
theorem pageF_all (ds : List Int) (h : ds.length % 128 = 0) : ds.take (ds.length / 128 * 128) = ds := List.take_of_length_le (by omega)
theorem pageF_none (pg : Int) (h : 0 ≤ pg → True) : pageF [] pg = none := by
  unfold pageF
  rw [if_neg (by simp; omega)]
/-- The pages of the first k files, and of j pages of the next. -/
def someF (fs : List PF) (k j : Nat) : List PF := fs.take k ++ [((fs.getD k (ByteArray.empty, [])).1, (fs.getD k (ByteArray.empty, [])).2.take (j * 128))]
theorem inv_new {fs : List PF} (hI : Inv fs) {k : Nat} (hk : k < fs.length) : ∀ g ∈ fs.take k, g.1 ≠ (fs.getD k (ByteArray.empty, [])).1 := by
  intro g hg
  obtain ⟨i, hi, rfl⟩ := List.mem_iff_getElem.1 hg
  have hi' : i < k := by simp at hi; omega
  have := hI.ne i k (by omega) (by omega) hk
  simpa [List.getD, List.getElem?_eq_getElem (show i < fs.length by omega), List.getElem_take] using this
theorem someF_page {fs : List PF} (hI : Inv fs) {k : Nat} (hk : k < fs.length) (j : Nat) (nm : ByteArray) (pg : Int) : pageOf (someF fs k j) nm pg = if nm = (fs.getD k (ByteArray.empty, [])).1 then pageF ((fs.getD k (ByteArray.empty, [])).2.take (j * 128)) pg else pageOf (fs.take k) nm pg :=
  pageOf_snoc (f := ((fs.getD k (ByteArray.empty, [])).1, (fs.getD k (ByteArray.empty, [])).2.take (j * 128))) (inv_new hI hk)
theorem rep_start {fs : List PF} (hI : Inv fs) {k : Nat} (hk : k < fs.length) {D : DataW Unit} (h : RepS D (pageOf (fs.take k))) : RepS D (pageOf (someF fs k 0)) :=
  h.congr fun nm pg => by
    rw [someF_page hI hk]
    by_cases hn : nm = (fs.getD k (ByteArray.empty, [])).1
    · rw [if_pos hn]
      simp only [Nat.zero_mul, List.take_zero]
      rw [pageF_none pg (fun _ => trivial)]
      subst hn
      unfold pageOf
      rw [List.find?_eq_none.2 (fun g hg => by simpa using inv_new hI hk g hg)]
    · rw [if_neg hn]
theorem rep_step {fs : List PF} (hI : Inv fs) {k j : Nat} (hk : k < fs.length) {D : DataW Unit} (h : RepS D (pageOf (someF fs k j))) (hD : IsMap D) (hj : (j + 1) * 128 ≤ (fs.getD k (ByteArray.empty, [])).2.length) (hn : (fs.getD k (ByteArray.empty, [])).1.size ≤ maxLen) (hp : (Lit.int .i64 (j : Int)).wf = true) :
    RepS (D.put (kPl (fs.getD k (ByteArray.empty, [])).1 j) (shD (((fs.getD k (ByteArray.empty, [])).2.drop (j * 128)).take 128))) (pageOf (someF fs k (j + 1))) :=
  (h.put hD hn hp _).congr fun nm pg => by
    rw [someF_page hI hk, someF_page hI hk]
    by_cases h1 : nm = (fs.getD k (ByteArray.empty, [])).1
    · rw [if_pos h1, if_pos h1]
      rw [pageF_take hj]
      by_cases h2 : pg = j
      · rw [if_pos h2, if_pos ⟨h1, h2⟩]
      · rw [if_neg h2, if_neg (fun h => h2 h.2)]
    · rw [if_neg h1, if_neg h1, if_neg (fun h => h1 h.1)]
theorem rep_next {fs : List PF} (hI : Inv fs) {k : Nat} (hk : k < fs.length) {D : DataW Unit} (h : RepS D (pageOf (someF fs k ((fs.getD k (ByteArray.empty, [])).2.length / 128)))) : RepS D (pageOf (fs.take (k + 1))) := by
  have e : someF fs k ((fs.getD k (ByteArray.empty, [])).2.length / 128) = fs.take (k + 1) := by
    unfold someF
    rw [pageF_all _ (hI.pg k hk).2, take_snocD fs k (ByteArray.empty, []) hk]
  rw [e] at h
  exact h
end Go.Proofs.Ytmmdkjeoadlikaa
