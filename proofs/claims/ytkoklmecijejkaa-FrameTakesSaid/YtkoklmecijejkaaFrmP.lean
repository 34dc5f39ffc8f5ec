/-
  The program's frames: all that is taken out; what the program tells of frames.
-/
import Derived.Test.YtkoklmecijejkaaFrpL
import Derived.Test.YtkoklmecijejkaaFrmN
import Derived.LoopTactic
namespace Go.Proofs.Ytkoklmecijejkaa
open Go.RowKit
set_option linter.unusedVariables false

/-- What has been taken out so far, and what is still there. -/
def Sofar (size : Nat) (L : List Nat) (fs : List (Nat × List Nat)) (d : Nat) (L' : List Nat) : Prop :=
  (∀ fs2 d2 R, Took size L' fs2 d2 R → Took size L (fs ++ fs2) (d + d2) R) ∧ d + L'.length ≤ L.length
theorem Sofar.zero (size : Nat) (L : List Nat) : Sofar size L [] 0 L := ⟨fun fs2 d2 R h => by simpa using h, by omega⟩
theorem Sofar.more {size : Nat} {L L' : List Nat} {fs : List (Nat × List Nat)} {d : Nat} {x : Nat × List Nat} (h : Sofar size L fs d L') (hx : (nextOf size L').1 = some x) : Sofar size L (fs ++ [x]) (d + (nextOf size L').2.1) (nextOf size L').2.2 := by
  refine ⟨fun fs2 d2 R q => ?_, by have := next_sum size L'; have := h.2; omega⟩
  have := h.1 _ _ _ (Took.some L' x fs2 d2 R hx q)
  rw [List.append_assoc, Nat.add_assoc]
  exact this
theorem Sofar.done {size : Nat} {L L' : List Nat} {fs : List (Nat × List Nat)} {d : Nat} (h : Sofar size L fs d L') (hx : (nextOf size L').1 = none) : Took size L fs (d + (nextOf size L').2.1) (nextOf size L').2.2 := by
  have := h.1 _ _ _ (Took.none L' hx)
  simpa using this

/-- Frames of the call's own: their row, and their bodies. -/
def FramesOwn (B : Nat) (w : World) (lv : Value) (fs : List (Nat × List Nat)) : Prop :=
  ∃ xs, w.ownsRow B 34 2 lv fs.length xs ∧ ∀ i, i < fs.length → ∃ fv, xs[i * 2]? = some (.int .u8 ((fr fs i).1 : Nat)) ∧ xs[i * 2 + 1]? = some fv ∧ Own B 5 .u8 w fv (fr fs i).2 ∧ (fr fs i).1 < 256
theorem FramesOwn.nil (B : Nat) (w : World) : FramesOwn B w (.slice none 0 0) [] := ⟨[], World.ownsRow_nil _ _ _ _, fun i hi => by simp at hi⟩
theorem own_apart {w : World} {B B' : Nat} {lv fv : Value} {n : Nat} {xs : List Value} {ns : List Nat} (h : w.ownsRow B 34 2 lv n xs) (k : Own B' 5 .u8 w fv ns) (b : Nat) (hb : fv.ownBlock = some b) : lv.ownBlock ≠ some b := by
  intro hl
  rcases h.2 with ⟨rfl, _⟩ | ⟨g, cap, cur, rfl, _, hg, _⟩
  · cases hl
  · rcases k.2 with ⟨rfl, _⟩ | ⟨g', cap', cur', rfl, _, hg', _⟩
    · cases hb
    · simp only [Value.ownBlock, Option.some.injEq] at hl hb
      subst hl
      subst hb
      rw [hg] at hg'
      simp only [Option.some.injEq, Obj.cells.injEq] at hg'
      exact absurd hg'.2.1 (by decide)
theorem FramesOwn.far {B : Nat} {F : Nat → Prop} {w w' : World} {lv : Value} {fs : List (Nat × List Nat)} (h : FramesOwn B w lv fs) (g : Far F w w') (hF : ∀ b, F b → b < B) : FramesOwn B w' lv fs := by
  obtain ⟨xs, h1, h2⟩ := h
  refine ⟨xs, ?_, fun i hi => ?_⟩
  · refine ⟨h1.1, ?_⟩
    rcases h1.2 with h | ⟨b, cap, cur, e, hb, hh, r⟩
    · exact .inl h
    · exact .inr ⟨b, cap, cur, e, hb, (g.block b (Array.getElem?_eq_some_iff.1 hh).1 (fun q => by have := hF b q; omega)).trans hh, r⟩
  · obtain ⟨fv, a, b, c, d⟩ := h2 i hi
    exact ⟨fv, a, b, c.far g (fun x hx q => by have := hF x q; have := (World.ownsRow.lt c x hx).1; omega), d⟩
theorem FramesOwn.push {B : Nat} {w w' : World} {lv lv' fv : Value} {fs : List (Nat × List Nat)} {xs : List Value} {f : Nat × List Nat} (h1 : w.ownsRow B 34 2 lv fs.length xs)
    (h2 : ∀ i, i < fs.length → ∃ fv, xs[i * 2]? = some (.int .u8 ((fr fs i).1 : Nat)) ∧ xs[i * 2 + 1]? = some fv ∧ Own B 5 .u8 w fv (fr fs i).2 ∧ (fr fs i).1 < 256)
    (hf : Own B 5 .u8 w fv f.2) (hk : f.1 < 256) (hown : w'.ownsRow B 34 2 lv' (fs.length + 1) (xs ++ [.int .u8 (f.1 : Nat), fv])) (hg : w.grownBy w' lv.ownBlock) : FramesOwn B w' lv' (fs ++ [f]) := by
  have g : Far (fun b => lv.ownBlock = some b) w w' := by
    obtain ⟨a, b, c, d, e⟩ := hg
    exact ⟨a, b, c, d, fun k hk hne => e k hk (fun q => hne q.symm)⟩
  have hxl := h1.1
  refine ⟨_, by rw [List.length_append]; exact hown, fun i hi => ?_⟩
  rw [List.length_append, List.length_singleton] at hi
  by_cases hlt : i < fs.length
  · obtain ⟨u, a, b, c, d⟩ := h2 i hlt
    have e : fr (fs ++ [f]) i = fr fs i := by unfold fr; rw [List.getD_eq_getElem?_getD, List.getD_eq_getElem?_getD, List.getElem?_append_left hlt]
    rw [e]
    exact ⟨u, by rw [List.getElem?_append_left (by omega)]; exact a, by rw [List.getElem?_append_left (by omega)]; exact b, c.far g (fun x hx q => own_apart h1 c x hx q), d⟩
  · obtain rfl : i = fs.length := by omega
    have e : fr (fs ++ [f]) fs.length = f := by unfold fr; rw [List.getD_eq_getElem?_getD, List.getElem?_append_right (Nat.le_refl _), Nat.sub_self]; rfl
    rw [e]
    exact ⟨fv, by rw [List.getElem?_append_right (by omega), hxl, Nat.sub_self]; rfl, by rw [List.getElem?_append_right (by omega), hxl, Nat.add_sub_cancel_left]; rfl, hf.far g (fun x hx q => own_apart h1 hf x hx q), hk⟩
theorem FramesOwn.from_ {B : Nat} {w : World} {lv : Value} {fs : List (Nat × List Nat)} (h : FramesOwn B w lv fs) : FramesFrom B w.heap.size w lv fs := by
  obtain ⟨xs, h1, h2⟩ := h
  rcases h1.2 with ⟨rfl, h0⟩ | ⟨b, cap, cur, rfl, hb, hh, hn, hx, hs, hc⟩
  · exact ⟨none, 0, by rw [h0], by omega, fun h => by omega⟩
  · have hbl : b < w.heap.size := (Array.getElem?_eq_some_iff.1 hh).1
    refine ⟨_, cap, rfl, hn, fun hp => ⟨b, 0, rfl, ⟨hb, hbl⟩, fun i hi => ?_⟩⟩
    obtain ⟨fv, a, c, d, e⟩ := h2 i hi
    have cellAt : ∀ j u, j < fs.length * 2 → xs[j]? = some u → w.cell? ⟨b, j, none⟩ = some u := fun j u hj hu => by
      rw [cell_of_row w b j cur _ (0, 0) hh]
      have : (cur.toList.take (fs.length * 2))[j]? = cur[j]? := by rw [List.getElem?_take, if_pos hj, Array.getElem?_toList]
      rw [← this, hc]
      exact hu
    refine ⟨fv, ⟨hbl, ?_, ?_, d.row, e⟩, fun _ x hx => World.ownsRow.lt d x hx⟩
    · rw [Nat.zero_add]; exact cellAt _ _ (by omega) a
    · rw [Nat.zero_add]; exact cellAt _ _ (by omega) c

theorem far_own' {B n s : Nat} {w w' : World} {E : TypeId} {v : Value} {xs : List Value} (ho : w.ownsRow B E s v n xs) (hg : w.grownBy w' v.ownBlock) : Far (fun x => B ≤ x) w w' := by
  obtain ⟨h1, h2, h3, h4, h5⟩ := hg
  exact ⟨h1, h2, h3, h4, fun k hk hne => h5 k hk (fun e => hne (World.ownsRow.lt ho k e.symm).1)⟩
section
variable {P : Program} (w : World)
/-- 'append(frames, f)' of one frame, the row the call's own. -/
theorem wpList_pushF {ops : Array Oper} {rest : List Oper} {o : Oper} {a : Act} {Q : Exit → Act → World → Prop} (hgd : o.guard = none) (s x : Operand) (t : TypeId)
    (ho : o.op = .call { callee := .builtin .append, args := #[s, x], argTypes := #[t, t] })
    (base : Nat) (E : TypeId) (ht : P.underlying t = some (.slice E)) (hi : (P.info? E).map (fun i => (i.zero, i.size, i.bytes)) = some (some (.agg #[.int .u8 0, .slice none 0 0]), 2, 32))
    (v : Value) (n : Nat) (xs : List Value) (hs : a.eval s = v) (hown : w.ownsRow base E 2 v n xs)
    (b : Nat) (p : Int) (A : Option Addr) (m c : Nat) (hx : a.eval x = .slice (some ⟨b, 0, none⟩) 1 1) (hc : w.cell? ⟨b, 0, none⟩ = some (.int .u8 p)) (hc1 : w.cell? ⟨b, 1, none⟩ = some (.slice A m c))
    (hlen : n ≤ 100000) (hbase : base ≤ w.heap.size)
    (h : ∀ v' w', w'.ownsRow base E 2 v' (n + 1) (xs ++ [.int .u8 p, .slice A m c]) → w.grownBy w' v.ownBlock → wpList P ops Q rest (a.put o.dst v') w') : wpList P ops Q (o :: rest) a w := by
  obtain ⟨i, hi0, hz0, hz1, hz2⟩ := info_parts hi
  refine wpList_append_own w hgd s x t ho base E i (.agg #[.int .u8 0, .slice none 0 0]) 2 32 ht hi0 hz0 hz1 hz2 rfl (by decide) v n xs hs hown ⟨b, 0, none⟩ 1 1 [.int .u8 p, .slice A m c] hx rfl ?_ ?_ ?_ (by omega) hbase ?_
  · intro j u hj
    match j, hj with
    | 0, hj => simp at hj; subst hj; simpa [Addr.add] using hc
    | 1, hj => simp at hj; subst hj; simpa [Addr.add] using hc1
  · intro u hu; simp at hu; rcases hu with rfl | rfl <;> rfl
  · unfold maxLen; omega
  · intro v' w' h1 h2 _
    exact h v' w' h1 h2
end
theorem infoFrame : (Try.prog.info? 34).map (fun i => (i.zero, i.size, i.bytes)) = some (some (.agg #[.int .u8 0, .slice none 0 0]), 2, 32) := by kernel_rfl

set_option maxRecDepth 100000 in
set_option maxHeartbeats 4000000 in
theorem prog_All (w : World) (v : Value) (F : Nat → Prop) (size : Nat) (L : List Nat) (lost : Nat) (h : ProgR w v F size L lost) :
    Calls Try.prog 18 #[v] w (AllTells ProgR v F size L lost w) := by
  have hp : ∃ g, v = .pointer (some ⟨g, 0, none⟩) := by obtain ⟨g, first, e, _⟩ := h; exact ⟨g, e⟩
  obtain ⟨g, rfl⟩ := hp
  have HN := fun wr L' (q : ProgR wr (.pointer (some ⟨g, 0, none⟩)) F size L' lost) => Lib.hid (prog_NextO wr _ F size L' lost q)
  have HLT := Lib.hid (fun y (hy : F y) => ring_calls.lt w _ F size L lost y h hy)
  have HLL := Lib.hid (ring_calls.inv w _ F size L lost h)
  have HR := Lib.hid h
  clear h
  go_enter Try.func18, Try.ntmps18
  go_wp2_with fail
  go_loopw [4, 5] (fun s t wr => ∃ (A : Option Addr) (c d : Nat) (fs : List (Nat × List Nat)) (L' : List Nat), s = .slice A fs.length c ∧ t = .int .i64 (d : Nat) ∧ fs.length + L'.length ≤ L.length ∧ Hid (Sofar size L fs d L') ∧ Hid (FramesOwn w.heap.size wr (.slice A fs.length c) fs) ∧ Hid (ProgR wr (.pointer (some ⟨g, 0, none⟩)) F size L' lost) ∧ Hid (Far F w wr)) (fun s t _ => L.length + 1 - (match s with | .slice _ n _ => n | _ => 0))
  case atStart => exact ⟨none, 0, 0, [], L, rfl, rfl, by simp, Sofar.zero _ _, FramesOwn.nil _ _, HR.out, Far.refl _ _⟩
  case round =>
    clear HR
    obtain ⟨A1, c1, d, fs, L', rfl, rfl, hfl, hSo, hFr, hR, hF⟩ := hrel
    have hLL := HLL.out
    have hdl : d + L'.length ≤ L.length := hSo.out.2
    have hsum := next_sum size L'
    have H1 := HN wr L' hR.out
    unfold NextO at H1
    have hws : w.heap.size ≤ wr.heap.size := hF.out.size
    have HSA := Lib.hid (fun w1 (q : Far F wr w1) => hFr.out.far q (fun b hb => HLT.out b hb))
    have e1 : IntKind.i64.wrap ((d : Int) + (nextOf size L').2.1) = ((d + (nextOf size L').2.1 : Nat) : Int) := by rw [IntWalk.i64_in _ (by omega)]; omega
    cases hx : (nextOf size L').1 with
    | none =>
      have HD := Lib.hid (hSo.out.done hx)
      rw [hx] at H1
      simp only [frameOf, Option.getD_none, Option.isSome_none] at H1
      generalize (nextOf size L').2.1 = n at *
      generalize (nextOf size L').2.2 = R at *
      clear hx HN
      go_wp2_with (go_at_call 11; refine H1.out.mono ?_; rintro e w1 ⟨A, m, c, rfl, hO, hk, hR1, hF1⟩; replace hO := Lib.hid hO; replace hR1 := Lib.hid hR1; replace hF1 := Lib.hid hF1)
      go_ret2
      have G := (Grew.refl w1).alloc (.cells #[.int .u8 0, .slice A m c] 34)
      exact ⟨F, _, fs, d + n, R, rfl, HD.out, ((HSA.out w1 hF1.out).far (F := fun _ => False) (Far.of_grew G) (fun _ h => h.elim)).from_, ring_calls.grew hR1.out G, fun b hb => .inl hb, (hF.out.trans hF1.out).trans (Far.of_grew G)⟩
    | some x =>
      have hlt := next_lt size L' hx
      have HD := Lib.hid (hSo.out.more hx)
      rw [hx] at H1
      simp only [frameOf, Option.getD_some, Option.isSome_some] at H1
      generalize (nextOf size L').2.1 = n at *
      generalize (nextOf size L').2.2 = R at *
      obtain ⟨k, ns⟩ := x
      clear hx HN
      go_upto_region 7 with (go_at_call 11; refine H1.out.mono ?_; rintro e w1 ⟨A, m, c, rfl, hO, hk, hR1, hF1⟩)
      obtain ⟨X, hX, gX, x0, hXl, x1, hXs⟩ := newB w1 (.int .u8 (k : Nat)) (.slice A m c) 34
      rw [hX]
      have hw1 : wr.heap.size ≤ w1.heap.size := hF1.size
      have HOX := Lib.hid (own_base (hO.grew gX) hws)
      have HRX := Lib.hid (ring_calls.grew hR1 gX)
      have HFX := Lib.hid ((hF.out.trans hF1).trans (Far.of_grew gX))
      have HFR := Lib.hid ((HSA.out w1 hF1).far (F := fun _ => False) (Far.of_grew gX) (fun _ h => h.elim))
      clear hX gX hXs hO hR1 hF1 H1 HSA hSo hFr hR hF
      generalize hfb : w1.heap.size = fb at *
      clear hfb
      obtain ⟨xs, ho1, ho2⟩ := HFR.out
      have b0 := (boxed_keeps (E := 34) (Grew.refl (X.alloc (.cells #[.int .u8 (k : Nat), .slice A m c] 34))))
      have hsx : w.heap.size ≤ (X.alloc (.cells #[.int .u8 (k : Nat), .slice A m c] 34)).heap.size := by rw [World.size_alloc]; omega
      go_wp2_with (refine wpList_pushF _ rfl _ _ 39 rfl w.heap.size 34 Try.underlying39 infoFrame (.slice A1 fs.length c1) fs.length xs rfl (ho1.alloc _) X.heap.size (k : Nat) A m c rfl b0.1 b0.2 (by omega) hsx ?_; intro v3 w3 hown hgrow)
      have hFO := far_own' (ho1.alloc (.cells #[.int .u8 (k : Nat), .slice A m c] 34)) hgrow
      have gA := (Grew.refl X).alloc (.cells #[.int .u8 (k : Nat), .slice A m c] 34)
      have hP := FramesOwn.push (f := (k, ns)) (ho1.alloc (.cells #[.int .u8 (k : Nat), .slice A m c] 34)) (fun i hi => by obtain ⟨u, a, b, q, r⟩ := ho2 i hi; exact ⟨u, a, b, q.grew gA, r⟩) (HOX.out.grew gA) hk hown hgrow
      have hform : ∃ A3 c3, v3 = .slice A3 (fs ++ [(k, ns)]).length c3 := by
        rw [List.length_append, List.length_singleton]
        rcases hown.2 with ⟨rfl, h⟩ | ⟨b, cap, cur, e, _⟩
        · omega
        · exact ⟨_, _, e⟩
      obtain ⟨A3, c3, rfl⟩ := hform
      have hR3 := ring_calls.far _ _ _ _ (fun b => w.heap.size ≤ b) _ _ _ (ring_calls.grew HRX.out gA) hFO (fun b hb q => by have := HLT.out b hb; omega)
      have hF3 := (HFX.out.trans (Far.of_grew gA)).beyond hFO (fun q hq => .inr hq)
      go_roundw
      case rel => exact ⟨A3, c3, d + n, fs ++ [(k, ns)], R, rfl, by simp, by rw [List.length_append, List.length_singleton]; omega, HD, hP, hR3, hF3⟩
      case measure =>
        simp only [List.length_append, List.length_singleton]
        omega

theorem prog_noAll (w : World) : Calls Try.prog 18 #[.pointer none] w fun e w' => (∃ A c, e = .returned (.tuple #[.slice A 0 c, .int .i64 0])) ∧ Grew w w' := by
  have H := fun w => Lib.hid (prog_noNext w)
  go_enter Try.func18, Try.ntmps18
  go_wp2_with fail
  go_loopw [4, 5] (fun s t wr => s = .slice none 0 0 ∧ t = .int .i64 0 ∧ Hid (Grew w wr)) (fun s t _ => 0)
  case atStart => exact ⟨rfl, rfl, Grew.refl _⟩
  case round =>
    obtain ⟨rfl, rfl, hG⟩ := hrel
    have H1 := H wr
    go_wp2_with (go_at_call 11; refine H1.out.mono ?_; rintro e w1 ⟨⟨k, A, m, c, rfl⟩, hG1⟩; replace hG1 := Lib.hid hG1)
    go_ret2
    exact ⟨⟨_, _, rfl⟩, (hG.out.trans hG1.out).alloc _⟩

theorem frame_calls : FrameCalls ProgR (fun _ => True) where
  next := fun w v F size L lost h _ _ => prog_Next w v F size L lost h
  nnext := fun w _ => prog_noNext w
  all := fun w v F size L lost h _ _ => prog_All w v F size L lost h
  nall := fun w _ => prog_noAll w
  bytes := fun w k fv ns hR hB hl hk _ => (prog_Bytes k fv ns w hR hB hl hk).mono (by
    rintro e w' ⟨v, rfl, hO, g⟩
    exact ⟨v, rfl, hO.row, fun _ b hb => (World.ownsRow.lt hO b hb).1, g⟩)
end Go.Proofs.Ytkoklmecijejkaa
