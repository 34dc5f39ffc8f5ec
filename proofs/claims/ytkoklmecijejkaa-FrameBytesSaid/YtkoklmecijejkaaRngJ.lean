/-
  What the program's ring tells, as the laws ask it.
-/
import Derived.Test.YtkoklmecijejkaaRngN
namespace Go.Proofs.Ytkoklmecijejkaa
open Go.RowKit
set_option linter.unusedVariables false

theorem ring_calls : RingCalls ProgR (fun _ => True) where
  keep := fun _ _ _ _ => trivial
  inv := fun w v F size ns lost ⟨g, first, _, _, h⟩ => ⟨h.hs, h.hn, h.hb⟩
  lt := fun w v F size ns lost b ⟨g, first, _, hF, h⟩ hb => by rw [(hF b).1 hb]; exact h.lt
  far := fun w w' v F G size ns lost ⟨g, first, e, hF, h⟩ k hk => ⟨g, first, e, hF, h.far k (hk g ((hF g).2 rfl))⟩
  new := fun size w h1 h2 _ => (ring_New size w ⟨h1, h2⟩).mono (by
    rintro e w' ⟨rfl, rfl⟩
    exact ⟨w.heap.size, fun k => k = w.heap.size, rfl, ⟨w.heap.size, 0, rfl, fun k => Iff.rfl, progAt_new w _ size ⟨h1, h2⟩⟩, fun b hb => by rw [hb]; exact Nat.le_refl _, (Grew.refl w).alloc _⟩)
  bad := fun size w hn hb _ => ring_bad size w hn hb
  put := by
    rintro w v F size ns lost b xs ⟨g, first, rfl, hF, h⟩ hR hB hx hl hne _
    refine (ring_Put w g size first ns lost b xs h hR hB hx hl (fun h0 k hk e => hne h0 k hk ((hF k).2 e))).mono ?_
    rintro e w' ⟨f', rfl, hP, hf⟩
    exact ⟨F, rfl, ⟨g, f', rfl, hF, hP⟩, fun b hb => .inl hb, hf.mono (fun k _ hk => (hF k).2 hk)⟩
  drop := by
    rintro w v F size ns lost n ⟨g, first, rfl, hF, h⟩ hn _
    refine (ring_Drop w g size first ns lost n h hn).mono ?_
    rintro e w' ⟨f', rfl, hP, hf⟩
    exact ⟨F, rfl, ⟨g, f', rfl, hF, hP⟩, fun b hb => .inl hb, hf.mono (fun k _ hk => (hF k).2 hk)⟩
  len := by rintro w v F size ns lost ⟨g, first, rfl, hF, h⟩ _; exact ring_Len w g size first _ ns lost h
  size := by rintro w v F size ns lost ⟨g, first, rfl, hF, h⟩ _; exact ring_Size w g size first _ ns lost h
  peek := by rintro w v F size ns lost n ⟨g, first, rfl, hF, h⟩ hn _; exact ring_Peek w g size first ns lost n h hn
  copy := by
    rintro w v F size ns lost ⟨g, first, rfl, hF, h⟩ _
    refine (ring_Copy w g size first _ ns lost h).mono ?_
    rintro e w' ⟨g', rfl, hg, hP, gr⟩
    exact ⟨g', fun k => k = g', rfl, ⟨g', first, rfl, fun k => Iff.rfl, hP⟩, fun b hb => by rw [hb]; exact hg, gr⟩
  nput := fun w b xs _ _ => ring_noPut w b
  ndrop := by
    intro w n hn _
    have H := Lib.hid (ring_noUpTo w n hn)
    go_enter Try.func22, Try.ntmps22
    go_wp2_with fail
    refine H.out.mono ?_
    rintro e w1 ⟨rfl, g1⟩
    go_wp2_with fail
    go_ret
    exact ⟨rfl, g1⟩
  nlen := fun w _ => ring_noLen w
  nsize := fun w _ => ring_noSize w
  npeek := by
    intro w n hn _
    have H := Lib.hid (ring_noUpTo w n hn)
    go_enter Try.func14, Try.ntmps14
    go_wp2_with fail
    refine H.out.mono ?_
    rintro e w1 ⟨rfl, g1⟩
    go_wp2_with fail
    go_ret
    exact ⟨_, rfl, Own.nil _ _ _ _, g1⟩
  ncopy := fun w _ => ring_noCopy w
  nat := fun w i hi _ => ring_noAt w i hi
  at_ := by
    rintro w v F size ns lost i ⟨g, first, rfl, hF, h⟩ hi _
    by_cases hc : 0 ≤ i ∧ i < ns.length
    · obtain ⟨k, rfl⟩ : ∃ k : Nat, i = k := ⟨i.toNat, by omega⟩
      have := ring_At w g size first ns lost k h (by omega)
      simp only [hc, and_self, if_true, decide_true, Int.toNat_natCast]
      exact this
    · have := ring_At_no w g size first _ ns lost i h hi (by omega)
      rw [if_neg hc, decide_eq_false hc]
      exact this
end Go.Proofs.Ytkoklmecijejkaa
