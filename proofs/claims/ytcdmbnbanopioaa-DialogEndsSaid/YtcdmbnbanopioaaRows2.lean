/-
  An argument that is a slice of rows of bytes.
-/
import Derived.Test.YtcdmbnbanopioaaRowsA
import Derived.Deep.Matrix
import Derived.SizedLaws
namespace Go.Proofs.Ytcdmbnbanopioaa
open Go.RowKit Go.ChangeShapes Go.WideShapes Go.Deep
set_option linter.unusedVariables false

def RowsIn (w : World) (A : Option Addr) (len cap : Nat) (bss : List (List Nat)) : Prop :=
  RowsAt w (.slice A len cap) bss ∧ (∀ i, Bytes (bss.getD i [])) ∧ bss.length ≤ 140737488355328 ∧ ∀ i, (bss.getD i []).length ≤ 140737488355328
theorem RowsIn.none_ (w : World) : RowsIn w none 0 0 [] :=
  ⟨⟨none, 0, rfl, Nat.le_refl _, fun h => by simp at h⟩, fun i => by simp; exact Bytes.of_mem (by simp), by simp, fun i => by simp⟩

theorem weightsAll_mem {H : Type} {P : Program} {e : TypeId} {x : Nat} {d : DataW H} : ∀ {ds : List (DataW H)}, d ∈ ds → x ∈ d.weights P e → x ∈ DataW.weightsAll P e ds
  | [], h, _ => by cases h
  | a :: r, h, hx => by
    rw [DataW.weightsAll, List.mem_append]
    rcases List.mem_cons.1 h with rfl | h
    · exact .inl hx
    · exact .inr (weightsAll_mem h hx)

theorem RowsIn.of {w : World} {base : Nat} {a : Addr} {len cap : Nat} {A : Nat → Option Addr} {L C : Nat → Nat} {Z : Nat → List Int} (hl : len ≤ cap) (hlen : len ≤ 140737488355328)
    (hr : ∀ r, r < cap → w.cell? (a.add r) = some (.slice (A r) (L r) (C r)) ∧ L r ≤ C r ∧ C r ≤ maxLen ∧ (Z r).length = C r ∧ (∀ n ∈ Z r, (Lit.int .u8 n).wf = true) ∧ (A r = none → C r = 0) ∧
        ∀ a', A r = some a' → base ≤ a'.block ∧ ∀ c, c < C r → w.cell? (a'.add c) = some (.int .u8 ((Z r).getD c 0)))
    (hw : ∀ r, r < len → (A r).isSome = true → C r ≤ 140737488355328) : ∃ bss, RowsIn w (some a) len cap bss := by
  have hg : ∀ i, i < len → ((List.range len).map fun r => ((Z r).take (L r)).map Int.toNat).getD i [] = ((Z i).take (L i)).map Int.toNat := fun i hi => by
    rw [List.getD_eq_getElem?_getD, List.getElem?_map, List.getElem?_range hi]; rfl
  have hgo : ∀ i, ¬ i < len → ((List.range len).map fun r => ((Z r).take (L r)).map Int.toNat).getD i [] = [] := fun i hi => by
    rw [List.getD_eq_getElem?_getD, List.getElem?_eq_none (by simp; omega)]; rfl
  have hll : ∀ i, i < len → (((Z i).take (L i)).map Int.toNat).length = L i := fun i hi => by
    obtain ⟨_, h1, _, h3, _⟩ := hr i (by omega)
    simp; omega
  have hrow : ∀ i, i < len → RowIn .u8 w (A i) (L i) (C i) (((Z i).take (L i)).map Int.toNat) := fun i hi => by
    obtain ⟨_, h1, h2, h3, h4, h5, h6⟩ := hr i (by omega)
    cases hA : A i with
    | none =>
      have hC := h5 hA
      have hz : Z i = [] := List.eq_nil_of_length_eq_zero (by omega)
      have hL : L i = 0 := by omega
      rw [hz, hL, hC]
      exact RowIn.none_ _ _
    | some a' => exact RowIn.of h1 h2 h3 (fun j hj => (h6 a' hA).2 j (by omega)) h4 (fun n h => (bounds_u8 h).1)
  refine ⟨(List.range len).map fun r => ((Z r).take (L r)).map Int.toNat, ⟨some a, cap, by simp, by simpa using hl, fun hp => ?_⟩, fun i => ?_, by simpa using hlen, fun i => ?_⟩
  · simp at hp
    have h0 := (hr 0 (by omega)).1
    obtain ⟨b, o, spot⟩ := a
    have hs : spot = none := by simpa [Addr.add] using World.cell?_spot h0
    subst hs
    refine ⟨b, o, rfl, World.block_lt_of_cell? w ⟨b, o, none⟩ (by simpa [Addr.add] using h0), fun i hi => ⟨A i, C i, ?_, ?_⟩⟩
    · simp at hi
      rw [hg i hi, hll i hi]
      have := (hr i (by omega)).1
      rwa [show (⟨b, o, none⟩ : Addr).add i = ⟨b, o + i, none⟩ by unfold Addr.add; split <;> simp_all] at this
    · simp at hi
      have := (hrow i hi).1
      rw [hg i hi, hll i hi]
      exact this
  · by_cases hi : i < len
    · rw [hg i hi]; exact Bytes.of_mem fun x hx => by have := bounds_u8 ((hrow i hi).2.1 x hx); omega
    · rw [hgo i hi]; exact Bytes.of_mem (by simp)
  · by_cases hi : i < len
    · rw [hg i hi, hll i hi]
      obtain ⟨_, h1, _, h3, _, h5, _⟩ := hr i (by omega)
      cases hA : A i with
      | none => have := h5 hA; omega
      | some a' => have := hw i hi (by rw [hA]; rfl); omega
    · rw [hgo i hi]; simp

/-- The reach of each inner row, out of the datum's weights. -/
theorem inner_reach {H : Type} {P : Program} {ts : List TypeId} {ds : List (DataW H)} (h : (DataW.weightsEach P ts ds).all (· ≤ reachBytes) = true) {j : Nat} {t e q : TypeId} {len : Nat} {A : Nat → Option Addr} {L C : Nat → Nat} {Z : Nat → List Int} {rest : List (DataW H)}
    (ht : ts[j]? = some t) (hd : ds[j]? = some (.slice ((List.range len).map fun r => intRow .u8 (A r) (L r) (Z r)) rest)) (hu : P.underlying t = some (.slice e)) (he : P.underlying e = some (.slice q)) (hb : P.bytesOf q = 1)
    (hz : ∀ r, r < len → (Z r).length = C r) : ∀ r, r < len → (A r).isSome = true → C r ≤ 140737488355328 := fun r hr hA => by
  have hmem : (Z r).length ∈ DataW.weightsEach P ts ds := DataW.weights_mem_each ht hd _ (by
    rw [DataW.weights, hu]
    refine List.mem_cons_of_mem _ (List.mem_append_left _ (weightsAll_mem (List.mem_map.2 ⟨r, List.mem_range.2 hr, rfl⟩) ?_))
    obtain ⟨a', ha⟩ := Option.isSome_iff_exists.1 hA
    have e : intRow (H := H) .u8 (A r) (L r) (Z r) = .slice (lits .u8 ((Z r).take (L r))) (lits .u8 ((Z r).drop (L r))) := by unfold intRow; rw [ha]
    rw [e, DataW.weights, he]
    refine List.mem_cons.2 (.inl ?_)
    simp [lits, hb]
    omega)
  have := List.all_eq_true.1 h _ hmem
  have h2 : (Z r).length ≤ reachBytes := by simpa using this
  rw [hz r hr] at h2
  unfold reachBytes at h2
  omega
end Go.Proofs.Ytcdmbnbanopioaa
