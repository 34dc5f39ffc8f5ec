/-
  What the program tells of frames; the page's examples out of it.
-/
import Derived.Test.YtkoklmecijejkaaFrmI
import Derived.Test.YtkoklmecijejkaaRngL
import Derived.StillTailTactics
import Derived.Lib.SlBytesConst
namespace Go.Proofs.Ytkoklmecijejkaa
open Go.RowKit
set_option linter.unusedVariables false

theorem row_farE {F : Nat → Prop} {w w' : World} {k : IntKind} {v : Value} {ns : List Nat} (h : Row k w v ns) (g : Far F w w') (hF : 0 < ns.length → ∀ b, v.ownBlock = some b → ¬ F b) : Row k w' v ns := by
  obtain ⟨A, cap, rfl, hc, hr⟩ := h
  refine ⟨A, cap, rfl, hc, fun hn => ?_⟩
  obtain ⟨b, o, rfl, hb, hcell⟩ := hr hn
  exact ⟨b, o, rfl, Nat.lt_of_lt_of_le hb g.size, fun i hi => (g.cell (p := ⟨b, o + i, none⟩) hb (hF hn b rfl)).trans (hcell i hi)⟩
/-- Frames behind a slice value, all of it made in blocks from B on, below U. -/
def FramesFrom (B U : Nat) (w : World) (v : Value) (fs : List (Nat × List Nat)) : Prop :=
  ∃ A c, v = .slice A fs.length c ∧ fs.length ≤ c ∧ (0 < fs.length → ∃ b o, A = some ⟨b, o, none⟩ ∧ (B ≤ b ∧ b < U) ∧ ∀ i, i < fs.length → ∃ fv, FrameIn w b (o + i * 2) (fr fs i) fv ∧ (0 < (fr fs i).2.length → ∀ b, fv.ownBlock = some b → B ≤ b ∧ b < U))
theorem FramesFrom.at_ {B U : Nat} {w : World} {v : Value} {fs : List (Nat × List Nat)} (h : FramesFrom B U w v fs) : FramesAt w v fs := by
  obtain ⟨A, c, e, hc, hr⟩ := h
  refine ⟨A, c, e, hc, fun hn => ?_⟩
  obtain ⟨b, o, e2, _, hf⟩ := hr hn
  exact ⟨b, o, e2, fun i hi => (hf i hi).imp fun _ h => h.1⟩
theorem FrameIn.far {F : Nat → Prop} {w w' : World} {b o : Nat} {f : Nat × List Nat} {v : Value} (h : FrameIn w b o f v) (g : Far F w w') (hb : ¬ F b) (hv : 0 < f.2.length → ∀ b, v.ownBlock = some b → ¬ F b) : FrameIn w' b o f v :=
  ⟨Nat.lt_of_lt_of_le h.lt g.size, (g.cell (p := ⟨b, o, none⟩) h.lt hb).trans h.c0, (g.cell (p := ⟨b, o + 1, none⟩) h.lt hb).trans h.c1, row_farE h.row g hv, h.k⟩
theorem FramesFrom.far {F : Nat → Prop} {B U : Nat} {w w' : World} {v : Value} {fs : List (Nat × List Nat)} (h : FramesFrom B U w v fs) (g : Far F w w') (hF : ∀ b, F b → b < B ∨ U ≤ b) : FramesFrom B U w' v fs := by
  obtain ⟨A, c, e, hc, hr⟩ := h
  refine ⟨A, c, e, hc, fun hn => ?_⟩
  obtain ⟨b, o, e2, hB, hf⟩ := hr hn
  refine ⟨b, o, e2, hB, fun i hi => ?_⟩
  obtain ⟨fv, h1, h2⟩ := hf i hi
  refine ⟨fv, h1.far g (fun hb => ?_) (fun hn b hb hFb => ?_), h2⟩
  · have := hF _ hb; omega
  · have h3 := h2 hn b hb
    have := hF _ hFb
    omega
theorem FramesFrom.grew {B U : Nat} {w w' : World} {v : Value} {fs : List (Nat × List Nat)} (h : FramesFrom B U w v fs) (g : Grew w w') : FramesFrom B U w' v fs := h.far (F := fun _ => False) (Far.of_grew g) (fun _ h => h.elim)
theorem frames_one {w : World} {E : TypeId} {k n c : Nat} {A : Option Addr} {ns : List Nat} (h : Row .u8 w (.slice A n c) ns) (hk : k < 256) : FramesAt (w.alloc (.cells #[.int .u8 (k : Nat), .slice A n c] E)) (.slice (some ⟨w.heap.size, 0, none⟩) 1 1) [(k, ns)] := by
  refine ⟨_, 1, rfl, Nat.le_refl _, fun _ => ⟨w.heap.size, 0, rfl, fun i hi => ?_⟩⟩
  obtain rfl : i = 0 := by simpa using hi
  exact ⟨.slice A n c, by simp, by simp [go_sem, fr], by simp [go_sem], h.grew ((Grew.refl w).alloc _), hk⟩

section
variable (R : World → Value → (Nat → Prop) → Nat → List Nat → Nat → Prop)
def NextTells (v : Value) (F : Nat → Prop) (size : Nat) (L : List Nat) (lost : Nat) (w : World) (e : Ending) (w' : World) : Prop :=
  ∃ F' fv, e = .returned (.tuple #[.agg #[.int .u8 ((frameOf (nextOf size L).1).1 : Nat), fv], .bool (nextOf size L).1.isSome, .int .i64 ((nextOf size L).2.1 : Nat)]) ∧ Row .u8 w' fv (frameOf (nextOf size L).1).2 ∧ (frameOf (nextOf size L).1).1 < 256 ∧
    (0 < (frameOf (nextOf size L).1).2.length → ∀ b, fv.ownBlock = some b → w.heap.size ≤ b ∧ ¬ F' b) ∧ R w' v F' size (nextOf size L).2.2 lost ∧ (∀ b, F' b → F b ∨ w.heap.size ≤ b) ∧ Far F w w'
def AllTells (v : Value) (F : Nat → Prop) (size : Nat) (L : List Nat) (lost : Nat) (w : World) (e : Ending) (w' : World) : Prop :=
  ∃ F' lv fs d rest, e = .returned (.tuple #[lv, .int .i64 (d : Nat)]) ∧ Took size L fs d rest ∧ FramesFrom w.heap.size w'.heap.size w' lv fs ∧ R w' v F' size rest lost ∧ (∀ b, F' b → F b ∨ w.heap.size ≤ b) ∧ Far F w w'
structure FrameCalls (T : World → Prop) : Prop where
  next : ∀ w v F size L lost, R w v F size L lost → lost ≤ 1000000000 → T w → Calls Try.prog 11 #[v] w (NextTells R v F size L lost w)
  nnext : ∀ w, T w → Calls Try.prog 11 #[.pointer none] w fun e w' => (∃ k A n c, e = .returned (.tuple #[.agg #[.int .u8 k, .slice A n c], .bool false, .int .i64 0])) ∧ Grew w w'
  all : ∀ w v F size L lost, R w v F size L lost → lost ≤ 1000000000 → T w → Calls Try.prog 18 #[v] w (AllTells R v F size L lost w)
  nall : ∀ w, T w → Calls Try.prog 18 #[.pointer none] w fun e w' => (∃ A c, e = .returned (.tuple #[.slice A 0 c, .int .i64 0])) ∧ Grew w w'
  bytes : ∀ w k fv ns, Row .u8 w fv ns → Bytes ns → ns.length ≤ 5000 → k < 256 → T w → Calls Try.prog 15 #[.agg #[.int .u8 (k : Nat), fv]] w fun e w' => ∃ v, e = .returned (.tuple #[v, .int .i64 (frameErr k ns : Nat)]) ∧ Row .u8 w' v (frameBytes k ns) ∧ (0 < (frameBytes k ns).length → ∀ b, v.ownBlock = some b → w.heap.size ≤ b) ∧ Grew w w'
end

def OfTells (xs : List Nat) (w : World) (e : Ending) (w' : World) : Prop :=
  ∃ A c, e = .returned (.tuple #[.agg #[.int .u8 ((frameOf (nextOf 64 xs).1).1 : Nat), .slice A (frameOf (nextOf 64 xs).1).2.length c], .bool (nextOf 64 xs).1.isSome, .int .i64 ((nextOf 64 xs).2.1 : Nat)]) ∧ Row .u8 w' (.slice A (frameOf (nextOf 64 xs).1).2.length c) (frameOf (nextOf 64 xs).1).2 ∧ Grew w w'

set_option maxRecDepth 100000 in
set_option maxHeartbeats 2000000 in
theorem law08_of {R : World → Value → (Nat → Prop) → Nat → List Nat → Nat → Prop} {T : World → Prop} (P : RingCalls R T) (Q : FrameCalls R T) (bv : Value) (xs : List Nat) (w : World) (hr : Row .u8 w bv xs) (hB : Bytes xs) (hl : xs.length ≤ 64) (ht : T w) :
    Calls Try.prog 20 #[bv] w (OfTells xs w) := by
  have K := Lib.hid P.keep
  have HRW := Lib.hid hr
  clear hr
  go_enter Try.func20, Try.ntmps20
  go_wp2_with fail
  obtain ⟨W, hW, gW, NR, hWs⟩ := newF w 34
  rw [hW]
  have H0 := Lib.hid (P.new 64 W (by omega) (by omega) (K.out _ _ ht gW))
  have HWS := Lib.hid hWs
  clear hW hWs
  refine H0.out.mono ?_
  rintro e w1 ⟨g, F, rfl, hR, hF, g1⟩
  have h1 := P.put w1 _ F 64 [] 0 bv xs hR (HRW.out.grew (gW.trans g1)) hB (by omega) (by omega) (fun hn k hk hFk => by have := hF k hFk; have := HRW.out.lt hn k hk; have := HWS.out; omega) (K.out _ _ ht (gW.trans g1))
  have e1 : ringOver 64 [] xs = 0 := by unfold ringOver; simp; omega
  have e2 : ringPut 64 [] xs = xs := by unfold ringPut; rw [e1]; simp
  rw [e1, e2] at h1
  have H1 := Lib.hid h1
  have HF := Lib.hid hF
  have G1 := Lib.hid g1
  clear h1 e1 e2 hR hF g1 H0
  go_wp2_with fail
  refine H1.out.mono ?_
  clear H1
  rintro e w2 ⟨F2, rfl, hR, hF2, far2⟩
  have G2 := Lib.hid (far2.grew G1.out (fun k hk => HF.out k hk))
  have HF2 : Hid (∀ b, F2 b → W.heap.size ≤ b) := fun b hb => by
    rcases hF2 b hb with h | h
    · exact HF.out b h
    · exact Nat.le_trans G1.out.size h
  have H2 := Lib.hid (Q.next w2 _ F2 64 xs _ hR (by omega) (K.out _ _ ht (gW.trans G2.out)))
  clear hR hF2 far2 HF G1
  go_wp2_with fail
  refine H2.out.mono ?_
  clear H2
  rintro e w3 ⟨F3, fv, rfl, hrow, hk, hown, hR3, hF3, far3⟩
  have G3 := Lib.hid (far3.grew G2.out (fun k hk => HF2.out k hk))
  obtain ⟨A, c, rfl, hc⟩ := hrow.form
  have HROW := Lib.hid hrow
  have HOWN := Lib.hid hown
  have hsz := G2.out.size
  have NR3 := NR.grew G3.out
  have HP : ∀ e x y, Hid (e = Ending.returned (.tuple #[.agg #[.int .u8 ((frameOf (nextOf 64 xs).1).1 : Nat), .slice A (frameOf (nextOf 64 xs).1).2.length c], .bool (nextOf 64 xs).1.isSome, .int .i64 ((nextOf 64 xs).2.1 : Nat)]) → OfTells xs w e ((w3.setCell ⟨w.heap.size, 0, none⟩ x).setCell ⟨w.heap.size, 1, none⟩ y)) := fun e x y he =>
    ⟨A, c, he, row_farE HROW.out (far_at x y) (fun hn b hb e => by have h := (HOWN.out hn b hb).1; have e' : b = w.heap.size := e; have := HWS.out; omega), ((gW.trans G3.out).setCell (Nat.le_refl _) _).setCell (Nat.le_refl _) _⟩
  clear hrow hown hR3 hF3 far3 NR hk hc HROW HOWN
  generalize (frameOf (nextOf 64 xs).1).1 = kk at *
  generalize (frameOf (nextOf 64 xs).1).2.length = nn at *
  generalize (nextOf 64 xs).1.isSome = ok at *
  generalize (nextOf 64 xs).2.1 = dd at *
  obtain ⟨rlt, r0, r1, q0, q1⟩ := NR3
  go_wp2_with fail
  refine bodyPost_ret (by simp [results, Try.results20, go_sem, r0, r1]; try rfl) rfl ?_
  exact (HP _ _ _).out rfl
end Go.Proofs.Ytkoklmecijejkaa
