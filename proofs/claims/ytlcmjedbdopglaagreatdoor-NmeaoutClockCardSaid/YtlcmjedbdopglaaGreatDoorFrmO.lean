/-
  What the program tells of frames; the page's examples out of it.
  The page's examples of frames.
  The walk of the law on no ring and on all frames, out of the contracts.
  The walk of the law on a frame's bytes, out of the contracts.
-/
import Derived.Test.YtlcmjedbdopglaaGreatDoorFrmI
import Derived.Test.YtlcmjedbdopglaaGreatDoorRngL
import Derived.StillTailTactics
import Derived.Lib.SlBytesConst
namespace Go.Proofs.YtlcmjedbdopglaaGreatDoor
open Go.RowKit
set_option linter.unusedVariables false

/- What the program tells of frames; the page's examples out of it. -/
theorem row_farE {F : Nat → Prop} {w w' : World} {k : IntKind} {v : Value} {ns : List Nat} (h : Row k w v ns) (g : Far F w w') (hF : 0 < ns.length → ∀ b, v.ownBlock = some b → ¬ F b) : Row k w' v ns := by
  obtain ⟨A, cap, rfl, hc, hr⟩ := h
  refine ⟨A, cap, rfl, hc, fun hn => ?_⟩
  obtain ⟨b, o, rfl, hb, hcell⟩ := hr hn
  exact ⟨b, o, rfl, Nat.lt_of_lt_of_le hb g.size, fun i hi => (g.cell (p := ⟨b, o + i, none⟩) hb (hF hn b rfl)).trans (hcell i hi)⟩
/-- Frames behind a slice value, all of it made in blocks from B on, below U. -/
def FramesFrom (B U : Nat) (w : World) (v : Value) (fs : List (Nat × List Nat)) : Prop :=
  ∃ A c, v = .slice A fs.length c ∧ fs.length ≤ c ∧ (0 < fs.length → ∃ b o, A = some ⟨b, o, none⟩ ∧ (B ≤ b ∧ b < U) ∧ ∀ i, i < fs.length → ∃ fv, FrameIn w b (o + i * 2) (fr fs i) fv ∧ (0 < (fr fs i).2.length → ∀ b, fv.ownBlock = some b → B ≤ b ∧ b < U))
theorem FramesFrom.at_ {B U : Nat} {w : World} {v : Value} {fs : List (Nat × List Nat)} (h : FramesFrom B U w v fs) : FramesAt w v fs := by
  obtain ⟨A, c, e, hc, hr⟩ := h
  refine ⟨A, c, e, hc, fun hn => ?_⟩
  obtain ⟨b, o, e2, _, hf⟩ := hr hn
  exact ⟨b, o, e2, fun i hi => (hf i hi).imp fun _ h => h.1⟩
theorem FrameIn.far {F : Nat → Prop} {w w' : World} {b o : Nat} {f : Nat × List Nat} {v : Value} (h : FrameIn w b o f v) (g : Far F w w') (hb : ¬ F b) (hv : 0 < f.2.length → ∀ b, v.ownBlock = some b → ¬ F b) : FrameIn w' b o f v :=
  ⟨Nat.lt_of_lt_of_le h.lt g.size, (g.cell (p := ⟨b, o, none⟩) h.lt hb).trans h.c0, (g.cell (p := ⟨b, o + 1, none⟩) h.lt hb).trans h.c1, row_farE h.row g hv, h.k⟩
theorem FramesFrom.far {F : Nat → Prop} {B U : Nat} {w w' : World} {v : Value} {fs : List (Nat × List Nat)} (h : FramesFrom B U w v fs) (g : Far F w w') (hF : ∀ b, F b → b < B ∨ U ≤ b) : FramesFrom B U w' v fs := by
  obtain ⟨A, c, e, hc, hr⟩ := h
  refine ⟨A, c, e, hc, fun hn => ?_⟩
  obtain ⟨b, o, e2, hB, hf⟩ := hr hn
  refine ⟨b, o, e2, hB, fun i hi => ?_⟩
  obtain ⟨fv, h1, h2⟩ := hf i hi
  refine ⟨fv, h1.far g (fun hb => ?_) (fun hn b hb hFb => ?_), h2⟩
  · have := hF _ hb; omega
  · have h3 := h2 hn b hb
    have := hF _ hFb
    omega
theorem FramesFrom.grew {B U : Nat} {w w' : World} {v : Value} {fs : List (Nat × List Nat)} (h : FramesFrom B U w v fs) (g : Grew w w') : FramesFrom B U w' v fs := h.far (F := fun _ => False) (Far.of_grew g) (fun _ h => h.elim)
theorem frames_one {w : World} {E : TypeId} {k n c : Nat} {A : Option Addr} {ns : List Nat} (h : Row .u8 w (.slice A n c) ns) (hk : k < 256) : FramesAt (w.alloc (.cells #[.int .u8 (k : Nat), .slice A n c] E)) (.slice (some ⟨w.heap.size, 0, none⟩) 1 1) [(k, ns)] := by
  refine ⟨_, 1, rfl, Nat.le_refl _, fun _ => ⟨w.heap.size, 0, rfl, fun i hi => ?_⟩⟩
  obtain rfl : i = 0 := by simpa using hi
  exact ⟨.slice A n c, by simp, by simp [go_sem, fr], by simp [go_sem], h.grew ((Grew.refl w).alloc _), hk⟩

section
variable (R : World → Value → (Nat → Prop) → Nat → List Nat → Nat → Prop)
def NextTells (v : Value) (F : Nat → Prop) (size : Nat) (L : List Nat) (lost : Nat) (w : World) (e : Ending) (w' : World) : Prop :=
  ∃ F' fv, e = .returned (.tuple #[.agg #[.int .u8 ((frameOf (nextOf size L).1).1 : Nat), fv], .bool (nextOf size L).1.isSome, .int .i64 ((nextOf size L).2.1 : Nat)]) ∧ Row .u8 w' fv (frameOf (nextOf size L).1).2 ∧ (frameOf (nextOf size L).1).1 < 256 ∧
    (0 < (frameOf (nextOf size L).1).2.length → ∀ b, fv.ownBlock = some b → w.heap.size ≤ b ∧ ¬ F' b) ∧ R w' v F' size (nextOf size L).2.2 lost ∧ (∀ b, F' b → F b ∨ w.heap.size ≤ b) ∧ Far F w w'
def AllTells (v : Value) (F : Nat → Prop) (size : Nat) (L : List Nat) (lost : Nat) (w : World) (e : Ending) (w' : World) : Prop :=
  ∃ F' lv fs d rest, e = .returned (.tuple #[lv, .int .i64 (d : Nat)]) ∧ Took size L fs d rest ∧ FramesFrom w.heap.size w'.heap.size w' lv fs ∧ R w' v F' size rest lost ∧ (∀ b, F' b → F b ∨ w.heap.size ≤ b) ∧ Far F w w'
structure FrameCalls (T : World → Prop) : Prop where
  next : ∀ w v F size L lost, R w v F size L lost → lost ≤ 1000000000 → T w → Calls Tryz.prog 17 #[v] w (NextTells R v F size L lost w)
  nnext : ∀ w, T w → Calls Tryz.prog 17 #[.pointer none] w fun e w' => (∃ k A n c, e = .returned (.tuple #[.agg #[.int .u8 k, .slice A n c], .bool false, .int .i64 0])) ∧ Grew w w'
  bytes : ∀ w k fv ns, Row .u8 w fv ns → Bytes ns → ns.length ≤ 5000 → k < 256 → T w → Calls Tryz.prog 25 #[.agg #[.int .u8 (k : Nat), fv]] w fun e w' => ∃ v, e = .returned (.tuple #[v, .int .i64 (frameErr k ns : Nat)]) ∧ Row .u8 w' v (frameBytes k ns) ∧ (0 < (frameBytes k ns).length → ∀ b, v.ownBlock = some b → w.heap.size ≤ b) ∧ Grew w w'
end

def OfTells (xs : List Nat) (w : World) (e : Ending) (w' : World) : Prop :=
  ∃ A c, e = .returned (.tuple #[.agg #[.int .u8 ((frameOf (nextOf 64 xs).1).1 : Nat), .slice A (frameOf (nextOf 64 xs).1).2.length c], .bool (nextOf 64 xs).1.isSome, .int .i64 ((nextOf 64 xs).2.1 : Nat)]) ∧ Row .u8 w' (.slice A (frameOf (nextOf 64 xs).1).2.length c) (frameOf (nextOf 64 xs).1).2 ∧ Grew w w'

/- The page's examples of frames. -/
def ex1 : List Nat := [36, 65, 42, 52, 49, 13, 10]
def ex2 : List Nat := [120, 181, 98, 1, 2, 0, 0, 3, 10]
def ex3 : List Nat := [36, 65, 42, 52, 50, 13, 10]
def ex4 : List Nat := [36, 65]
theorem ex_next : nextOf 64 ex1 = (some (1, [65]), 0, []) ∧ nextOf 64 ex2 = (some (2, [1, 2]), 1, []) ∧ nextOf 64 ex3 = (none, 7, []) ∧ nextOf 64 ex4 = (none, 0, [36, 65]) := by decide +kernel
theorem ex_bytes : Bytes ex1 ∧ Bytes ex2 ∧ Bytes ex3 ∧ Bytes ex4 := ⟨Bytes.of_mem (by decide), Bytes.of_mem (by decide), Bytes.of_mem (by decide), Bytes.of_mem (by decide)⟩
theorem strA : strOf [65] = { data := #[65] } := by decide +kernel

theorem row_lit (w : World) (E : TypeId) (fr : Nat × Nat) (ns : List Nat) : Row .u8 (w.alloc (.cells (ns.map fun n => Value.int .u8 (n : Nat)).toArray E fr)) (.slice (some ⟨w.heap.size, 0, none⟩) ns.length ns.length) ns :=
  Row.of_block (heap_alloc_new _ _) (fun i hi => by simp [wd, hi]) _ (Nat.le_refl _)
theorem row_ex1 (w : World) (E : TypeId) (fr : Nat × Nat) (b : Nat) (hb : b = w.heap.size) : Row .u8 (w.alloc (.cells #[.int .u8 36, .int .u8 65, .int .u8 42, .int .u8 52, .int .u8 49, .int .u8 13, .int .u8 10] E fr)) (.slice (some ⟨b, 0, none⟩) 7 7) ex1 := by
  subst hb
  have := row_lit w E fr ex1
  simpa [ex1] using this
theorem row_ex2 (w : World) (E : TypeId) (fr : Nat × Nat) (b : Nat) (hb : b = w.heap.size) : Row .u8 (w.alloc (.cells #[.int .u8 120, .int .u8 181, .int .u8 98, .int .u8 1, .int .u8 2, .int .u8 0, .int .u8 0, .int .u8 3, .int .u8 10] E fr)) (.slice (some ⟨b, 0, none⟩) 9 9) ex2 := by
  subst hb
  have := row_lit w E fr ex2
  simpa [ex2] using this
theorem row_ex3 (w : World) (E : TypeId) (fr : Nat × Nat) (b : Nat) (hb : b = w.heap.size) : Row .u8 (w.alloc (.cells #[.int .u8 36, .int .u8 65, .int .u8 42, .int .u8 52, .int .u8 50, .int .u8 13, .int .u8 10] E fr)) (.slice (some ⟨b, 0, none⟩) 7 7) ex3 := by
  subst hb
  have := row_lit w E fr ex3
  simpa [ex3] using this
theorem row_ex4 (w : World) (E : TypeId) (fr : Nat × Nat) (b : Nat) (hb : b = w.heap.size) : Row .u8 (w.alloc (.cells #[.int .u8 36, .int .u8 65] E fr)) (.slice (some ⟨b, 0, none⟩) 2 2) ex4 := by
  subst hb
  have := row_lit w E fr ex4
  simpa [ex4] using this
/-- A frame's variable keeps its frame. -/
theorem boxed_keeps {w1 w' : World} {E : TypeId} {x y : Value} (g : Grew (w1.alloc (.cells #[x, y] E)) w') : w'.cell? ⟨w1.heap.size, 0, none⟩ = some x ∧ w'.cell? ⟨w1.heap.size, 1, none⟩ = some y :=
  ⟨(g.cell (p := ⟨w1.heap.size, 0, none⟩) (by simp)).trans (by simp [go_sem]), (g.cell (p := ⟨w1.heap.size, 1, none⟩) (by simp)).trans (by simp [go_sem])⟩

/- The walk of the law on no ring and on all frames, out of the contracts. -/
theorem took_zero {size : Nat} {L : List Nat} {d : Nat} {R : List Nat} (h : Took size L [] d R) : nextOf size L = (none, d, R) := by
  cases h with
  | none _ h => rw [← h]
theorem took_one {size : Nat} {L : List Nat} {x : Nat × List Nat} {fs : List (Nat × List Nat)} {d : Nat} {R : List Nat} (h : Took size L (x :: fs) d R) : ∃ d1 L2 d2, nextOf size L = (some x, d1, L2) ∧ d = d1 + d2 ∧ Took size L2 fs d2 R := by
  cases h with
  | some _ _ _ d2 _ h t => exact ⟨_, _, d2, by rw [← h], rfl, t⟩
theorem next_sum (size : Nat) (L : List Nat) : (nextOf size L).2.1 + (nextOf size L).2.2.length ≤ L.length := by
  induction L with
  | nil => simp [nextOf]
  | cons x L ih =>
    unfold nextOf
    split
    · simp
    · split
      · simp [List.length_drop]
      · simp; omega
theorem all_takeWhile (p : Nat → Bool) (L : List Nat) : (L.takeWhile p).all p = true := by
  induction L with
  | nil => rfl
  | cons x L ih =>
    rw [List.takeWhile_cons]
    split
    · rename_i h; simp only [List.all_cons, h, ih, Bool.and_self]
    · rfl
/-- A body that is there has a frame's bytes. -/
theorem body_ok {size : Nat} {L : List Nat} {k : Nat} {ns : List Nat} (h : bodyOf size L = (k, ns, true, false)) : frameErr k ns = 0 := by
  unfold bodyOf at h
  repeat' split at h
  all_goals (simp only [Prod.mk.injEq, Bool.false_eq_true, Bool.true_eq_false, and_false, false_and] at h)
  · obtain ⟨rfl, rfl, _⟩ := h
    unfold frameErr
    rw [if_pos rfl, if_neg (by assumption), if_pos (all_takeWhile _ _)]
  · obtain ⟨rfl, rfl, _⟩ := h
    unfold frameErr
    rw [if_neg (by omega), if_pos rfl, if_neg (by simp), if_neg (by simp only [List.length_cons, List.length_take, List.length_drop]; omega)]
  · obtain ⟨rfl, rfl, _⟩ := h
    unfold frameErr
    rw [if_neg (by omega), if_neg (by omega), if_pos rfl, if_neg (by simp only [List.length_take, List.length_drop]; omega)]
theorem stand_pos {size : Nat} {L : List Nat} (h : (standOf size L).1 = 1) : 0 < (standOf size L).2.2.2 := by
  rcases Nat.eq_zero_or_pos L.length with h0 | h0
  · unfold standOf at h; rw [if_pos h0] at h; cases h
  · obtain ⟨k, ns, t, r, hb⟩ : ∃ k ns t r, bodyOf size L = (k, ns, t, r) := ⟨_, _, _, _, rfl⟩
    have e := stand_eq h0 hb
    by_cases h1 : r = true
    · rw [if_pos h1] at e; rw [e] at h; simp at h
    · rw [if_neg h1] at e
      by_cases h2 : t = true ∧ common (frameBytes k ns) L = (frameBytes k ns).length
      · rw [if_pos h2] at e
        rw [e]
        have hr : r = false := by simpa using h1
        rw [h2.1, hr] at hb
        have hk := body_ok hb
        obtain ⟨x, M, hx⟩ := row_pos k ns
        simp only
        unfold frameBytes
        rw [if_pos hk, hx]; simp
      · rw [if_neg h2] at e
        split at e
        · rw [e] at h; simp at h
        · split at e <;> (rw [e] at h; simp at h)
theorem next_lt (size : Nat) (L : List Nat) {x : Nat × List Nat} (h : (nextOf size L).1 = some x) : (nextOf size L).2.1 + (nextOf size L).2.2.length < L.length := by
  induction L with
  | nil => simp [nextOf] at h
  | cons y L ih =>
    by_cases h0 : (standOf size (y :: L)).1 = 0
    · rw [next_short h0] at h; cases h
    · by_cases h1 : (standOf size (y :: L)).1 = 1
      · obtain ⟨e, hl⟩ := next_one h1
        have hp := stand_pos h1
        rw [e]
        simp only [List.length_drop, Nat.zero_add]
        simp only [List.length_cons] at hl ⊢
        omega
      · obtain ⟨e, _⟩ := next_wrong h0 h1
        rw [e] at h ⊢
        have := ih h
        simp only [List.drop_succ_cons, List.drop_zero, List.length_cons] at this ⊢
        omega
theorem took_count {size : Nat} {L : List Nat} {fs : List (Nat × List Nat)} {d : Nat} {R : List Nat} (h : Took size L fs d R) : fs.length + d + R.length ≤ L.length := by
  induction h with
  | none L h => have := next_sum size L; simp; omega
  | some L x fs d R h t ih => have := next_lt size L h; simp only [List.length_cons]; omega
theorem took_sum {size : Nat} {L : List Nat} {fs : List (Nat × List Nat)} {d : Nat} {R : List Nat} (h : Took size L fs d R) : d + R.length ≤ L.length := by
  induction h with
  | none L h => exact next_sum size L
  | some L x fs d R h t ih => have := next_sum size L; omega
theorem frames_mk {w : World} {b k n c : Nat} {A : Option Addr} {ns : List Nat} (hb : b < w.heap.size) (c0 : w.cell? ⟨b, 0, none⟩ = some (.int .u8 (k : Nat))) (c1 : w.cell? ⟨b, 1, none⟩ = some (.slice A n c)) (h : Row .u8 w (.slice A n c) ns) (hk : k < 256) : FramesAt w (.slice (some ⟨b, 0, none⟩) 1 1) [(k, ns)] := by
  refine ⟨_, 1, rfl, Nat.le_refl _, fun _ => ⟨b, 0, rfl, fun i hi => ?_⟩⟩
  obtain rfl : i = 0 := by simpa using hi
  exact ⟨.slice A n c, hb, c0, c1, h, hk⟩
theorem drop_fr {fs : List (Nat × List Nat)} {k : Nat} (h : k < fs.length) : fs.drop k = fr fs k :: fs.drop (k + 1) := by
  rw [List.drop_eq_getElem_cons h]; unfold fr; rw [List.getD_eq_getElem?_getD, List.getElem?_eq_getElem h]; rfl

section
variable {R : World → Value → (Nat → Prop) → Nat → List Nat → Nat → Prop} {T : World → Prop}
theorem next_is (Q : FrameCalls R T) {w : World} {v : Value} {F : Nat → Prop} {size lost : Nat} {L : List Nat} (hR : R w v F size L lost) (hl : lost ≤ 1000000000) (ht : T w) {k : Nat} {ns : List Nat} {ok : Bool} {d : Nat} {L2 : List Nat} {o : Option (Nat × List Nat)} (hN : nextOf size L = (o, d, L2)) (ho : frameOf o = (k, ns)) (hs : o.isSome = ok) :
    Calls Tryz.prog 17 #[v] w fun e w' => ∃ F' A c, e = .returned (.tuple #[.agg #[.int .u8 (k : Nat), .slice A ns.length c], .bool ok, .int .i64 (d : Nat)]) ∧ Row .u8 w' (.slice A ns.length c) ns ∧ k < 256 ∧ (0 < ns.length → ∀ b, (Value.slice A ns.length c).ownBlock = some b → w.heap.size ≤ b ∧ ¬ F' b) ∧ R w' v F' size L2 lost ∧ (∀ b, F' b → F b ∨ w.heap.size ≤ b) ∧ Far F w w' := by
  have h := Q.next w v F size L lost hR hl ht
  unfold NextTells at h
  rw [hN] at h
  simp only [ho, hs] at h
  refine h.mono ?_
  rintro e w' ⟨F', fv, rfl, hrow, rest⟩
  obtain ⟨A, c, rfl, hc⟩ := hrow.form
  exact ⟨F', A, c, rfl, hrow, rest⟩
end

/- The walk of the law on a frame's bytes, out of the contracts. -/
theorem Bytes.mem {L : List Nat} (hB : Bytes L) : ∀ x ∈ L, x < 256 := fun x hx => by
  obtain ⟨i, hi, rfl⟩ := List.getElem_of_mem hx
  have := hB i
  rwa [wd_lt hi] at this
theorem frame_bytes {k : Nat} {ns : List Nat} (hB : Bytes ns) (hk : k < 256) : Bytes (frameBytes k ns) := by
  refine Bytes.of_mem (fun x hx => ?_)
  unfold frameBytes at hx
  split at hx
  · rename_i he
    have hm := hB.mem
    have h1 : xorOf ns < 256 := xorTo_lt hB _
    have h2 := fletB_lt (ubxRow ns)
    have h3 : fletA (ubxRow ns) < 256 := by unfold fletA; omega
    have h4 : fifOf ns < 32768 := by unfold fifOf; omega
    have d1 := digit_lt (xorOf ns / 16) (by omega)
    have d2 := digit_lt (xorOf ns % 16) (by omega)
    unfold frameErr at he
    by_cases k1 : k = 1
    · simp only [frameRow, if_pos k1, List.mem_cons, List.mem_append, List.not_mem_nil, or_false] at hx
      rcases hx with rfl | hx | rfl | rfl | rfl | rfl | rfl
      · omega
      · exact hm _ hx
      all_goals omega
    · rw [if_neg k1] at he
      by_cases k2 : k = 2
      · rw [if_pos k2] at he
        have hl : ns.length ≤ 514 := by by_cases h : ns.length < 2 <;> by_cases h' : 514 < ns.length <;> simp_all <;> omega
        have hd : ∀ y ∈ ns.drop 2, y < 256 := fun y hy => hm y (List.mem_of_mem_drop hy)
        have b0 := hB 0
        have b1 := hB 1
        simp only [frameRow, if_neg k1, if_pos k2] at hx
        generalize fletA (ubxRow ns) = fa at *
        generalize fletB (ubxRow ns) = fb at *
        simp only [ubxRow, List.mem_cons, List.mem_append, List.not_mem_nil, or_false] at hx
        rcases hx with (e | e) | ((e | e | e | e) | e) | e | e
        all_goals first | (exact hd _ e) | (rw [e]; first | exact b0 | exact b1 | omega)
      · rw [if_neg k2] at he
        by_cases k3 : k = 3
        · rw [if_pos k3] at he
          have hl : ns.length ≤ 1023 := by by_cases h : 1023 < ns.length <;> simp_all <;> omega
          simp only [frameRow, if_neg k1, if_neg k2, List.mem_cons, List.mem_append, List.not_mem_nil, or_false] at hx
          rcases hx with (e | e | e | e) | e | e | e | e | e
          all_goals first | (exact hm _ e) | (rw [e]; omega)
        · rw [if_neg k3] at he; cases he
  · simp at hx
end Go.Proofs.YtlcmjedbdopglaaGreatDoor
