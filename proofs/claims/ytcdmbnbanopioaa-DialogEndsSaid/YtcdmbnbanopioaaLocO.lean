/-
  A region in its own order that fills a map: each operation is run once, whatever has come up ahead of it (XLocM's steps).
-/
import Derived.Test.YtcdmbnbanopioaaLocM
namespace Go.Proofs.Ytcdmbnbanopioaa
open Go.RowKit
set_option linter.unusedVariables false

section
variable {P : Program} {ops : Array Oper} {Q : Exit → Act → World → Prop} {Spec : (Nat → Bool) → Nat → World → Value → Prop} {G : (Nat → Bool) → World → Prop} {a0 : Act}
theorem locm_next {n : Nat} (hB : locmB n ops = true) (hn : a0.tmps.size = n) {listed : Array Bool} {a : Act} {w w' : World} {i : Nat} {o : Oper} {v : Value} (h : LocmInv ops Spec G a0 listed a w) (ho : ops[i]? = some o)
    (hwt : ∀ j, waits o j = true → got listed j = true) (hS : ∀ d, o.dst = some d → Spec (also (got listed) i) i w' v)
    (hO : ∀ j d, got listed j = true → writes ops j d = true → Spec (also (got listed) i) j w' (a.tmps.getD d undef)) (hG : G (also (got listed) i) w') :
    LocmInv ops Spec G a0 (listed.setIfInBounds i true) (a.put o.dst v) w' := by
  have hlt : i < ops.size := (Array.getElem?_eq_some_iff.1 ho).1
  have L := locm_of hB i o ho
  have hls : i < listed.size := by rw [h.size]; exact hlt
  refine ⟨by simpa using h.size, ?_, ?_, ?_, ?_, ?_, by rw [got_set hls]; exact hG⟩
  · cases hd : o.dst <;> exact h.defers
  · cases hd : o.dst with
    | none => exact h.slots
    | some d => simpa [Act.put] using h.slots
  · intro k hk
    cases hd : o.dst with
    | none => exact h.other k hk
    | some d =>
      show (a.tmps.setIfInBounds d v).getD k undef = _
      rw [tmp_set _ _ _ _ (by rw [h.slots, hn]; exact (L.dst d hd).1), if_neg (fun e => freeA_no hk ho (by rw [hd, e]))]
      exact h.other k hk
  · intro j d' hl hd'
    rw [got_set hls] at hl ⊢
    cases hd : o.dst with
    | none =>
      have hj : j ≠ i := fun q => by
        subst q
        unfold writes at hd'
        rw [ho] at hd'
        simp [hd] at hd'
      have hl' : got listed j = true := by simpa [also, hj] using hl
      exact hO j d' hl' hd'
    | some d =>
      show Spec _ j w' ((a.tmps.setIfInBounds d v).getD d' undef)
      rw [tmp_set _ _ _ _ (by rw [h.slots, hn]; exact (L.dst d hd).1)]
      have hd2 := hd'
      unfold writes at hd2
      cases hq : ops[j]? with
      | none => rw [hq] at hd2; cases hd2
      | some p =>
        rw [hq] at hd2
        simp only [beq_iff_eq] at hd2
        by_cases e : d' = d
        · subst e
          rw [if_pos rfl]
          obtain rfl := (L.dst d' hd).2 j p hq hd2
          exact hS d' hd
        · rw [if_neg e]
          have hj : j ≠ i := fun q => by
            subst q
            rw [ho] at hq
            obtain rfl := Option.some.inj hq
            rw [hd] at hd2
            exact e (Option.some.inj hd2).symm
          have hl' : got listed j = true := by simpa [also, hj] using hl
          exact hO j d' hl' hd'
  · intro j k hl hw
    rw [got_set hls] at hl ⊢
    by_cases e : j = i
    · subst e
      have : waits o k = true := by unfold waitsAt at hw; rw [ho] at hw; exact hw
      unfold also
      rw [hwt k this, Bool.or_true]
    · have hl' : got listed j = true := by simpa [also, e] using hl
      unfold also
      rw [h.closed j k hl' hw, Bool.or_true]
theorem locm_list {n : Nat} (hB : locmB n ops = true) (hn : a0.tmps.size = n)
    (step : ∀ (i : Nat) (o : Oper), ops[i]? = some o → LocStepG P ops Spec G a0 Q i o)
    (fin : ∀ (L : Nat → Bool) (a : Act) (w' : World), (∀ k, k < ops.size → L k = true) → a.defers = a0.defers → a.tmps.size = n → (∀ k, freeSlotA ops k = true → a.tmps.getD k undef = a0.tmps.getD k undef) →
      (∀ j d, writes ops j d = true → Spec L j w' (a.tmps.getD d undef)) → G L w' → Q .normal a w') :
    ∀ (m k : Nat) (listed : Array Bool) (a : Act) (w : World), k + m = ops.size → (∀ j, got listed j = decide (j < k)) → LocmInv ops Spec G a0 listed a w → wpOps P ops Q (List.range' k m) a w := by
  intro m
  induction m with
  | zero =>
    intro k listed a w hk hg h
    have hl : ∀ j, j < ops.size → got listed j = true := fun j hj => by rw [hg]; exact decide_eq_true (by omega)
    exact fin (got listed) a w hl h.defers (h.slots.trans hn) h.other (fun j d hd => h.done j d (hl j (by unfold writes at hd; split at hd; cases hd; exact (Array.getElem?_eq_some_iff.1 ‹_›).1)) hd) h.grew
  | succ m ih =>
    intro k listed a w hk hg h
    have hlt : k < ops.size := by omega
    have ho := Array.getElem?_eq_getElem hlt
    generalize ops[k] = o at ho
    have L := locm_of hB k o ho
    have hwt : ∀ j, waits o j = true → got listed j = true := fun j hj => by
      unfold waits at hj
      obtain ⟨e, he, hb⟩ := Array.any_eq_true'.1 hj
      simp only [Bool.and_eq_true, beq_iff_eq] at hb
      obtain ⟨rfl, hb⟩ := hb
      rw [hg]
      exact decide_eq_true (L.after e he hb)
    have hni : got listed k = false := by rw [hg]; simp
    have st := step k o ho
    unfold LocStepG at st
    simp only [← Array.getD_eq_getD_getElem?] at st
    rw [List.range'_succ]
    unfold wpOps
    simp only [ho]
    rw [if_pos (by simp [Region.wanted, L.guard])]
    refine .inl (Oper.wp_mono ?_ (st (got listed) a w hni h.other hwt h.closed h.done h.grew))
    rintro a' w' ⟨v, rfl, hS, hO, hG⟩
    have hls : k < listed.size := by rw [h.size]; exact hlt
    refine ih (k + 1) _ _ _ (by omega) (fun j => ?_) (locm_next hB hn h ho hwt hS hO hG)
    rw [got_set hls]
    unfold also
    rw [hg]
    by_cases e : j = k
    · subst e; simp
    · by_cases e2 : j < k
      · have e3 : j < k + 1 := by omega
        simp [e2, e3]
      · have e3 : ¬ j < k + 1 := by omega
        simp [e, e2, e3]
/-- The region's law, operation by operation, where the region has its own order. -/
theorem wp_region_fillO {id n : Nat} {l : List Oper} {w : World} (hl : ops = l.toArray) (hB : locmB n ops = true) (hn : a0.tmps.size = n)
    (start : ∀ L, (∀ k, L k = false) → G L w)
    (step : AllFrom (LocStepG P ops Spec G a0 Q) 0 l)
    (fin : ∀ (L : Nat → Bool) (a : Act) (w' : World), (∀ k, k < ops.size → L k = true) → a.defers = a0.defers → a.tmps.size = n → (∀ k, freeSlotA ops k = true → a.tmps[k]?.getD undef = a0.tmps[k]?.getD undef) →
      (∀ j d, writes ops j d = true → Spec L j w' (a.tmps[d]?.getD undef)) → G L w' → Q .normal a w') :
    (Code.region id l.toArray false).wp P Q a0 w := by
  subst hl
  have hg : ∀ k, got (Array.replicate l.toArray.size false) k = false := fun k => by unfold got; by_cases h : k < l.length <;> simp [h]
  refine wp_region ?_
  rw [List.range_eq_range']
  refine locm_list (Spec := Spec) (G := G) hB hn (fun i o ho => ?_) (fun L a w' h1 h2 h3 h4 h5 h6 => fin L a w' h1 h2 h3 (fun k hk => ?_) (fun j d hw => ?_) h6) _ 0 (Array.replicate l.toArray.size false) _ _ (by simp) (fun j => by rw [hg]; simp) ⟨by simp, rfl, rfl, fun _ _ => rfl, fun j d hj _ => ?_, fun j k hj _ => ?_, start _ hg⟩
  · have := all_from l 0 i o step (by simpa using ho)
    rw [Nat.zero_add] at this
    exact this
  · rw [← Array.getD_eq_getD_getElem?, ← Array.getD_eq_getD_getElem?]; exact h4 k hk
  · rw [← Array.getD_eq_getD_getElem?]; exact h5 j d hw
  · rw [hg] at hj; cases hj
  · rw [hg] at hj; cases hj
theorem wp_region_fillW {id n : Nat} {l : List Oper} {w : World} (hl : ops = l.toArray) (Spec : (Nat → Bool) → Nat → World → Value → Prop) (hB : locmB n ops = true) (hn : a0.tmps.size = n)
    (step : AllFrom (LocStep P ops Spec w a0 Q) 0 l)
    (fin : ∀ (L : Nat → Bool) (a : Act) (w' : World), (∀ k, k < ops.size → L k = true) → a.defers = a0.defers → a.tmps.size = n → (∀ k, freeSlotA ops k = true → a.tmps[k]?.getD undef = a0.tmps[k]?.getD undef) →
      (∀ j d, writes ops j d = true → Spec L j w' (a.tmps[d]?.getD undef)) → Grew w w' → Q .normal a w') :
    (Code.region id l.toArray false).wp P Q a0 w :=
  wp_region_fillO hl (Spec := Spec) (G := fun _ w' => Grew w w') hB hn (fun _ _ => Grew.refl w) step fin
end
end Go.Proofs.Ytcdmbnbanopioaa
