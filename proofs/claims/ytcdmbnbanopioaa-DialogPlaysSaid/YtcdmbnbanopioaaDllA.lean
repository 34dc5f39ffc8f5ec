/-
  The laws of dialogues: what the program's calls tell; the page's example. The program's calls are handed in.
  The laws of dialogues: which lists are looked at, which may be.
-/
import Derived.Test.YtcdmbnbanopioaaDlgN
import Derived.Test.YtcdmbnbanopioaaDlgW
namespace Go.Proofs.Ytcdmbnbanopioaa
open Go.RowKit
set_option linter.unusedVariables false

/- The laws of dialogues: what the program's calls tell; the page's example. The program's calls are handed in. -/
/-- What holds of a dialogue whatever came. -/
structure DlgOk (d : Dlg) : Prop where
  sound : Sound d.tries d.now d.rows
  came : d.came = false → Fresh d.rows
  kl : d.rows.length ≤ 16
  kn : -9223372036854775808 ≤ d.now ∧ d.now ≤ 9223372036854775807
  kt : 100000000 ≤ d.tmo ∧ d.tmo ≤ 10000000000
  kr : 1 ≤ d.tries ∧ d.tries ≤ 8
/-- Whether a dialogue may be made. -/
def mayDlg (cs : List Cmd) (tmo tries : Int) : Prop := (∀ c ∈ cs, mayCmd c) ∧ cs.length ≤ 16 ∧ 100000000 ≤ tmo ∧ tmo ≤ 10000000000 ∧ 1 ≤ tries ∧ tries ≤ 8
theorem DlgOk.new {cs : List Cmd} {tmo tries : Int} (h : mayDlg cs tmo tries) : DlgOk (dlgNew cs tmo tries.toNat) := by
  obtain ⟨_, h1, h2, h3, h4, h5⟩ := h
  refine ⟨.new (fresh_rows cs), fun _ => fresh_rows cs, by show (cs.map dlgRow).length ≤ 16; rw [List.length_map]; exact h1, ⟨by show -9223372036854775808 ≤ (0 : Int); decide, by show (0 : Int) ≤ 9223372036854775807; decide⟩, ⟨h2, h3⟩, ?_⟩
  show 1 ≤ tries.toNat ∧ tries.toNat ≤ 8
  omega
theorem tickL_len (now tmo : Int) (tries : Nat) (l : List DRow) : (tickL now tmo tries l).1.length = l.length := by
  have h := congrArg List.length (tick_cmds now tmo tries l)
  simpa using h
theorem hearL_len (wait : Nat) (good : Bool) (cls id : Nat) (l : List DRow) : (hearL wait good cls id l).1.length = l.length := by
  have h := congrArg List.length (hear_cmds wait good cls id l)
  simpa using h
theorem DlgOk.at_ {d : Dlg} (h : DlgOk d) (t : Int) : Sound d.tries (d.at t) d.rows := by
  cases q : d.came with
  | false => exact .new (h.came q)
  | true =>
    refine h.sound.later ?_
    unfold Dlg.at
    split
    · rename_i hc; rw [q] at hc; simp at hc; omega
    · exact Int.le_refl _
theorem DlgOk.tick {d : Dlg} (h : DlgOk d) (t : Int) (ht : -9223372036854775808 ≤ t ∧ t ≤ 9223372036854775807) : DlgOk (d.tick t).1 := by
  refine ⟨sound_tick (show 0 < d.tries by have := h.kr; omega) _ _ _ (h.at_ t), fun q => (by cases q), ?_, ?_, h.kt, h.kr⟩
  · show (tickL _ _ _ _).1.length ≤ 16
    rw [tickL_len]; exact h.kl
  · show -9223372036854775808 ≤ d.at t ∧ d.at t ≤ 9223372036854775807
    unfold Dlg.at
    split
    · exact ht
    · exact h.kn
theorem hear_fresh (wait : Nat) (good : Bool) (cls id : Nat) : ∀ l : List DRow, Fresh l → hearL wait good cls id l = (l, false)
  | [], _ => rfl
  | r :: rs, h => by
    have h0 := h r (by simp)
    rw [hearL, if_pos (by omega), if_neg (fun q => by omega)]
theorem DlgOk.hear {d : Dlg} (h : DlgOk d) (wait : Nat) (good : Bool) (cls id : Nat) : DlgOk (d.hear wait good cls id).1 := by
  refine ⟨sound_hear _ _ _ _ _ h.sound, fun q => ?_, ?_, h.kn, h.kt, h.kr⟩
  · show Fresh (hearL _ _ _ _ _).1
    rw [hear_fresh _ _ _ _ _ (h.came q)]
    exact h.came q
  · show (hearL _ _ _ _ _).1.length ≤ 16
    rw [hearL_len]; exact h.kl
/-- What the program's calls of layer 14 tell: R K w v F d: behind the pointer v stands the dialogue d, in blocks of F, which are written; what stands in blocks of K is read alone, and may be shared. -/
structure DlgCalls (R : (Nat → Prop) → World → Value → (Nat → Prop) → Dlg → Prop) : Prop where
  far : ∀ {K G : Nat → Prop} {w w' : World} {v : Value} {F : Nat → Prop} {d : Dlg}, R K w v F d → Far G w w' → (∀ b, F b ∨ K b → ¬ G b) → R K w' v F d
  lt : ∀ {K : Nat → Prop} {w : World} {v : Value} {F : Nat → Prop} {d : Dlg}, R K w v F d → ∀ b, F b ∨ K b → b < w.heap.size
  apart : ∀ {K : Nat → Prop} {w : World} {v : Value} {F : Nat → Prop} {d : Dlg}, R K w v F d → ∀ b, K b → ¬ F b
  ptr : ∀ {K : Nat → Prop} {w : World} {v : Value} {F : Nat → Prop} {d : Dlg}, R K w v F d → ∃ p, v = .pointer (some p)
  new : ∀ (X : Nat → Prop) (v : Value) (cs : List Cmd) (tmo tries : Int) (w : World), CmdsAt X w v cs → (∀ b, X b → b < w.heap.size) → cs.length ≤ 20 → (∀ c ∈ cs, c.wait < 256 ∧ c.cls < 256 ∧ c.id < 256 ∧ Bytes c.b ∧ c.b.length ≤ 1100) → (-9223372036854775808 ≤ tmo ∧ tmo ≤ 9223372036854775807) → (-9223372036854775808 ≤ tries ∧ tries ≤ 9223372036854775807) →
    Calls Try.prog 7 #[v, .int .i64 tmo, .int .i64 tries] w fun e w' => Grew w w' ∧ (mayDlg cs tmo tries → ∃ p F K, e = .returned (.tuple #[.pointer (some p), .int .i64 0]) ∧ R K w' (.pointer (some p)) F (dlgNew cs tmo tries.toNat) ∧ ∀ b, F b ∨ K b → w.heap.size ≤ b) ∧ (¬ mayDlg cs tmo tries → e = .returned (.tuple #[.pointer none, .int .i64 2]))
  tick : ∀ (K : Nat → Prop) (w : World) (v : Value) (F : Nat → Prop) (d : Dlg) (t : Int), R K w v F d → DlgOk d → (-9223372036854775808 ≤ t ∧ t ≤ 9223372036854775807) →
    Calls Try.prog 10 #[v, .int .i64 t] w fun e w' => ∃ F' fv, e = .returned (.tuple #[fv, .bool (d.tick t).2.isSome]) ∧ R K w' v F' (d.tick t).1 ∧ Far F w w' ∧ (∀ b, F' b → F b ∨ w.heap.size ≤ b) ∧ Own 0 5 .u8 w' fv ((d.tick t).2.getD []) ∧ ∀ b, fv.ownBlock = some b → w.heap.size ≤ b ∧ ¬ F' b
  frame : ∀ (K : Nat → Prop) (w : World) (v : Value) (F : Nat → Prop) (d : Dlg) (k : Nat) (u : Value) (S : List Nat), R K w v F d → DlgOk d → k < 256 → Row .u8 w u S → Bytes S → S.length ≤ 100000 →
    Calls Try.prog 12 #[v, .agg #[.int .u8 (k : Nat), u]] w fun e w' => ∃ F', e = .returned (.bool (d.hear (heardOf k S).1 (heardOf k S).2.1 (heardOf k S).2.2.1 (heardOf k S).2.2.2).2) ∧ R K w' v F' (d.hear (heardOf k S).1 (heardOf k S).2.1 (heardOf k S).2.2.1 (heardOf k S).2.2.2).1 ∧ Far F w w' ∧ ∀ b, F' b → F b ∨ w.heap.size ≤ b
  counts : ∀ (K : Nat → Prop) (w : World) (v : Value) (F : Nat → Prop) (d : Dlg), R K w v F d → DlgOk d →
    Calls Try.prog 16 #[v] w fun e w' => e = .returned (.tuple #[.int .i64 (doneOf d.rows : Nat), .int .i64 (lostOf d.rows : Nat), .int .i64 (leftOf d.rows : Nat)]) ∧ Grew w w'
  flying : ∀ (K : Nat → Prop) (w : World) (v : Value) (F : Nat → Prop) (d : Dlg), R K w v F d → DlgOk d →
    Calls Try.prog 18 #[v] w fun e w' => e = .returned (.bool (flyOf d.rows)) ∧ Grew w w'
  copy : ∀ (K : Nat → Prop) (w : World) (v : Value) (F : Nat → Prop) (d : Dlg), R K w v F d → DlgOk d →
    Calls Try.prog 14 #[v] w fun e w' => ∃ p F', e = .returned (.pointer (some p)) ∧ R K w' (.pointer (some p)) F' d ∧ (∀ b, F' b → w.heap.size ≤ b) ∧ Grew w w'
  none_tick : ∀ (w : World) (t : Int), (-9223372036854775808 ≤ t ∧ t ≤ 9223372036854775807) → Calls Try.prog 10 #[.pointer none, .int .i64 t] w fun e w' => ∃ A c, e = .returned (.tuple #[.slice A 0 c, .bool false]) ∧ Grew w w'
  none_frame : ∀ (w : World), Calls Try.prog 12 #[.pointer none, .agg #[.int .u8 0, .slice none 0 0]] w fun e w' => e = .returned (.bool false) ∧ Grew w w'
  none_counts : ∀ (w : World), Calls Try.prog 16 #[.pointer none] w fun e w' => e = .returned (.tuple #[.int .i64 0, .int .i64 0, .int .i64 0]) ∧ Grew w w'
  none_flying : ∀ (w : World), Calls Try.prog 18 #[.pointer none] w fun e w' => e = .returned (.bool false) ∧ Grew w w'
  none_copy : ∀ (w : World), Calls Try.prog 14 #[.pointer none] w fun e w' => e = .returned (.pointer none) ∧ Grew w w'
theorem row_lit (w : World) (E : TypeId) (cs : Array Value) (ns : List Nat) (n : Nat) (hc : cs = (cellsOf .u8 ns).toArray) (hn : n = ns.length) (hm : ns.length ≤ maxLen) : Row .u8 (w.alloc (.cells cs E)) (.slice (some ⟨w.heap.size, 0, none⟩) n n) ns := by
  subst hc hn
  exact (Own.lit w .u8 E 0 (Nat.zero_le _) ns hm).row
theorem own_next {F F' : Nat → Prop} {m n : Nat} (h : ∀ b, F' b → F b ∨ n ≤ b) (hF : ∀ b, F b → m ≤ b) (hm : m ≤ n) : ∀ b, F' b → m ≤ b := fun b hb => by
  rcases h b hb with q | q
  · exact hF b q
  · omega
def kq : Cmd := ⟨[1], 1, 6, 1⟩
def kd : Dlg := dlgNew [kq, kq] 1000000000 (2 : Int).toNat
def kd1 : Dlg := (kd.tick 0).1
def kd2 : Dlg := (kd1.tick 1).1
def kd3 : Dlg := (kd2.tick 1000000000).1
def kd4 : Dlg := (kd3.hear (heardOf 2 [5, 1, 6, 1]).1 (heardOf 2 [5, 1, 6, 1]).2.1 (heardOf 2 [5, 1, 6, 1]).2.2.1 (heardOf 2 [5, 1, 6, 1]).2.2.2).1
def kd5 : Dlg := (kd4.tick 1000000001).1
theorem kmay : mayDlg [kq, kq] 1000000000 2 := ⟨fun c hc => by simp at hc; subst hc; exact ⟨by decide, by decide, by decide⟩, by decide, by decide, by decide, by decide, by decide⟩
theorem kr1 : (kd.tick 0).2.isSome = true := by kernel_rfl
theorem kr2 : (kd1.tick 1).2.isSome = false := by kernel_rfl
theorem kr3 : (kd2.tick 1000000000).2.isSome = true := by kernel_rfl
theorem kr4 : (kd3.hear (heardOf 2 [5, 1, 6, 1]).1 (heardOf 2 [5, 1, 6, 1]).2.1 (heardOf 2 [5, 1, 6, 1]).2.2.1 (heardOf 2 [5, 1, 6, 1]).2.2.2).2 = true := by kernel_rfl
theorem kr5 : (kd4.tick 1000000001).2.isSome = true := by kernel_rfl
theorem kr6 : doneOf kd5.rows = 1 ∧ lostOf kd5.rows = 0 ∧ leftOf kd5.rows = 1 ∧ flyOf kd5.rows = true := ⟨by kernel_rfl, by kernel_rfl, by kernel_rfl, by kernel_rfl⟩
-- [KNOWN
set_option maxRecDepth 100000 in
set_option maxHeartbeats 4000000 in
theorem law_known14 {R : (Nat → Prop) → World → Value → (Nat → Prop) → Dlg → Prop} (C : DlgCalls R) (w : World) : Calls Try.prog 6 #[] w fun e w' => e = .returned (.bool true) ∧ Grew w w' := by
  go_enter Try.func6, Try.ntmps6
  go_upto_region 2 with fail
  obtain ⟨V0, hV0⟩ : ∃ V, w.alloc (.cells #[.int .u8 1] 5) = V := ⟨_, rfl⟩
  have r0 : Row .u8 V0 (.slice (some ⟨w.heap.size, 0, none⟩) 1 1) [1] := by rw [← hV0]; exact row_lit w 5 _ _ _ rfl rfl (by decide)
  have g0 : Grew w V0 := by rw [← hV0]; exact (Grew.refl w).alloc _
  have l0 : V0.heap.size = w.heap.size + 1 := by rw [← hV0]; simp
  rw [hV0]
  clear hV0
  obtain ⟨V, hV⟩ : ∃ V, V0.alloc (.cells #[.slice (some ⟨w.heap.size, 0, none⟩) 1 1, .int .u8 1, .int .u8 6, .int .u8 1] 28) = V := ⟨_, rfl⟩
  have v0 : V.cell? ⟨V0.heap.size, 0, none⟩ = some (.slice (some ⟨w.heap.size, 0, none⟩) 1 1) := by rw [← hV]; simp [go_sem]
  have v1 : V.cell? ⟨V0.heap.size, 1, none⟩ = some (.int .u8 1) := by rw [← hV]; simp [go_sem]
  have v2 : V.cell? ⟨V0.heap.size, 2, none⟩ = some (.int .u8 6) := by rw [← hV]; simp [go_sem]
  have v3 : V.cell? ⟨V0.heap.size, 3, none⟩ = some (.int .u8 1) := by rw [← hV]; simp [go_sem]
  have lV : V0.heap.size < V.heap.size := by rw [← hV]; simp
  have gV : Grew V0 V := by rw [← hV]; exact (Grew.refl V0).alloc _
  rw [hV]
  clear hV
  have r1 := r0.grew gV
  have G1 := Lib.hid (g0.trans gV)
  rw [l0] at v0 v1 v2 v3 lV
  clear l0
  have gA := (Grew.refl V).alloc (.cells #[.slice (some ⟨w.heap.size, 0, none⟩) 1 1, .int .u8 1, .int .u8 6, .int .u8 1, .slice (some ⟨w.heap.size, 0, none⟩) 1 1, .int .u8 1, .int .u8 6, .int .u8 1] 28)
  have hcm : ∀ i : Nat, i < 2 → CmdIn (V.alloc (.cells #[.slice (some ⟨w.heap.size, 0, none⟩) 1 1, .int .u8 1, .int .u8 6, .int .u8 1, .slice (some ⟨w.heap.size, 0, none⟩) 1 1, .int .u8 1, .int .u8 6, .int .u8 1] 28)) V.heap.size (0 + i * 4) kq (.slice (some ⟨w.heap.size, 0, none⟩) 1 1) := fun i hi => by
    refine ⟨by simp, ?_, ?_, ?_, ?_, r1.grew gA, by decide, by decide, by decide⟩
    all_goals (rw [World.cell?_alloc_new]; match i, hi with | 0, _ => rfl | 1, _ => rfl)
  have hCM : CmdsAt (fun b => b = w.heap.size) (V.alloc (.cells #[.slice (some ⟨w.heap.size, 0, none⟩) 1 1, .int .u8 1, .int .u8 6, .int .u8 1, .slice (some ⟨w.heap.size, 0, none⟩) 1 1, .int .u8 1, .int .u8 6, .int .u8 1] 28)) (.slice (some ⟨V.heap.size, 0, none⟩) 2 2) [kq, kq] := by
    refine ⟨_, 2, rfl, Nat.le_refl _, fun _ => ⟨V.heap.size, 0, rfl, fun i q hi => ?_⟩⟩
    have h2 := (List.getElem?_eq_some_iff.1 hi).1
    have e : q = kq := by
      match i, h2, hi with
      | 0, _, hi => cases hi; rfl
      | 1, _, hi => cases hi; rfl
    subst e
    exact ⟨_, hcm i h2, fun _ b hb => by simp [Value.ownBlock] at hb; exact hb.symm⟩
  have HN := C.new _ _ [kq, kq] 1000000000 2 _ hCM (fun b hb => by have := gA.size; omega) (by decide) (fun c hc => by simp at hc; subst hc; exact ⟨by decide, by decide, by decide, Bytes.of_mem (by simp [kq]), by decide⟩) (by decide) (by decide)
  replace HN := Lib.hid HN
  have GA := Lib.hid gA
  clear hCM hcm gA r0 r1
  go_upto_region 3 with (go_at_call 7; refine HN.out.mono ?_; rintro e w1 ⟨g1, hy, _⟩; obtain ⟨p, F, K, rfl, hR, hFK⟩ := hy kmay)
  have G2 := Lib.hid ((G1.out.trans GA.out).trans g1)
  have hok := DlgOk.new kmay
  have H1 := Lib.hid (C.tick _ _ _ F kd 0 hR hok (by decide))
  rw [kr1] at H1
  have hF1 : ∀ b, F b → w.heap.size ≤ b := fun b hb => by have := hFK b (.inl hb); have := (G1.out.trans GA.out).size; omega
  go_upto_region 6 with (go_at_call 10; refine H1.out.mono ?_; rintro e w2 ⟨F2, fv, rfl, hR2, hf2, hs2, ho2, hb2⟩; obtain ⟨fA, fc, rfl, _⟩ := ho2.row.form)
  have G3 := Lib.hid (hf2.grew G2.out hF1)
  have hF2 : ∀ b, F2 b → w.heap.size ≤ b := own_next hs2 hF1 G2.out.size
  have hok2 : DlgOk kd1 := hok.tick 0 (by decide)
  have H2 := Lib.hid (C.tick _ _ _ F2 kd1 1 hR2 hok2 (by decide))
  rw [kr2] at H2
  clear H1 hf2 hs2 ho2 hb2
  go_upto_region 7 with (go_at_call 10; refine H2.out.mono ?_; rintro e w3 ⟨F3, fv3, rfl, hR3, hf3, hs3, ho3, hb3⟩; obtain ⟨fA3, fc3, rfl, _⟩ := ho3.row.form)
  have G4 := Lib.hid (hf3.grew G3.out hF2)
  have hF3 : ∀ b, F3 b → w.heap.size ≤ b := own_next hs3 hF2 G3.out.size
  have hok3 : DlgOk kd2 := hok2.tick 1 (by decide)
  have H3 := Lib.hid (C.tick _ _ _ F3 kd2 1000000000 hR3 hok3 (by decide))
  rw [kr3] at H3
  clear H2 hf3 hs3 ho3 hb3
  go_upto_region 8 with (go_at_call 10; refine H3.out.mono ?_; rintro e w4 ⟨F4, fv4, rfl, hR4, hf4, hs4, ho4, hb4⟩; obtain ⟨fA4, fc4, rfl, _⟩ := ho4.row.form)
  have G5 := Lib.hid (hf4.grew G4.out hF3)
  have hF4 : ∀ b, F4 b → w.heap.size ≤ b := own_next hs4 hF3 G4.out.size
  have hok4 : DlgOk kd3 := hok3.tick 1000000000 (by decide)
  have gB := (Grew.refl w4).alloc (.cells #[.int .u8 5, .int .u8 1, .int .u8 6, .int .u8 1] 5)
  have hRb := C.far hR4 (Far.of_grew (F := fun _ => False) gB) (fun _ _ q => q)
  have H4 := Lib.hid (C.frame _ _ _ F4 kd3 2 _ [5, 1, 6, 1] hRb hok4 (by decide) (row_lit w4 5 #[.int .u8 5, .int .u8 1, .int .u8 6, .int .u8 1] [5, 1, 6, 1] 4 rfl rfl (by decide)) (Bytes.of_mem (by simp)) (by decide))
  rw [kr4] at H4
  have G6 := Lib.hid (G5.out.trans gB)
  clear H3 hf4 hs4 ho4 hb4 gB
  go_upto_region 9 with (go_at_call 12; refine H4.out.mono ?_; rintro e w5 ⟨F5, rfl, hR5, hf5, hs5⟩)
  have G7 := Lib.hid (hf5.grew G6.out hF4)
  have hF5 : ∀ b, F5 b → w.heap.size ≤ b := own_next hs5 hF4 G6.out.size
  have hok5 : DlgOk kd4 := hok4.hear _ _ _ _
  have H5 := Lib.hid (C.tick _ _ _ F5 kd4 1000000001 hR5 hok5 (by decide))
  rw [kr5] at H5
  clear H4 hf5 hs5
  go_upto_region 10 with (go_at_call 10; refine H5.out.mono ?_; rintro e w6 ⟨F6, fv6, rfl, hR6, hf6, hs6, ho6, hb6⟩; obtain ⟨fA6, fc6, rfl, _⟩ := ho6.row.form)
  have G8 := Lib.hid (hf6.grew G7.out hF5)
  have hok6 : DlgOk kd5 := hok5.tick 1000000001 (by decide)
  have H6 := C.counts _ _ _ F6 kd5 hR6 hok6
  rw [kr6.1, kr6.2.1, kr6.2.2.1] at H6
  replace H6 := Lib.hid H6
  have H7 := Lib.hid (fun w' (G : Grew w6 w') => C.flying _ _ _ F6 kd5 (C.far hR6 (Far.of_grew (F := fun _ => False) G) (fun _ _ q => q)) hok6)
  clear H5 hf6 hs6 ho6 hb6
  go_wp2_with (first | (go_at_call 16; refine H6.out.mono ?_; rintro e w7 ⟨rfl, g7⟩) | (go_at_call 18; refine (H7.out _ g7).mono ?_; rintro e w8 ⟨rfl, g8⟩))
  go_ret
  exact ⟨by rw [kr6.2.2.2]; rfl, (G8.out.trans g7).trans g8⟩
-- KNOWN]
/- The laws of dialogues: which lists are looked at, which may be. -/
/-- What comes: its kind, a counter, a frame. -/
structure Opr where
  kind : Int
  at_ : Int
  fk : Nat
  fs : List Nat
structure OpIn (w : World) (b o : Nat) (q : Opr) (v : Value) : Prop where
  lt : b < w.heap.size
  c0 : w.cell? ⟨b, o, none⟩ = some (.int .i64 q.kind)
  c1 : w.cell? ⟨b, o + 1, none⟩ = some (.int .i64 q.at_)
  c2 : w.cell? ⟨b, o + 2, none⟩ = some (.int .u8 (q.fk : Nat))
  c3 : w.cell? ⟨b, o + 3, none⟩ = some v
  row : Row .u8 w v q.fs
theorem OpIn.grew {w w' : World} {b o : Nat} {q : Opr} {v : Value} (h : OpIn w b o q v) (g : Grew w w') : OpIn w' b o q v :=
  ⟨Nat.lt_of_lt_of_le h.lt g.size, (g.cell (p := ⟨b, o, none⟩) h.lt).trans h.c0, (g.cell (p := ⟨b, o + 1, none⟩) h.lt).trans h.c1, (g.cell (p := ⟨b, o + 2, none⟩) h.lt).trans h.c2, (g.cell (p := ⟨b, o + 3, none⟩) h.lt).trans h.c3, h.row.grew g⟩
def OpsAt (w : World) (v : Value) (os : List Opr) : Prop :=
  ∃ A c, v = .slice A os.length c ∧ os.length ≤ c ∧ (0 < os.length → ∃ b o, A = some ⟨b, o, none⟩ ∧ ∀ i q, os[i]? = some q → ∃ fv, OpIn w b (o + i * 4) q fv)
theorem OpsAt.grew {w w' : World} {v : Value} {os : List Opr} (h : OpsAt w v os) (g : Grew w w') : OpsAt w' v os := by
  obtain ⟨A, c, rfl, hc, hr⟩ := h
  refine ⟨A, c, rfl, hc, fun hn => ?_⟩
  obtain ⟨b, o, rfl, hf⟩ := hr hn
  exact ⟨b, o, rfl, fun i q hi => by obtain ⟨fv, h⟩ := hf i q hi; exact ⟨fv, h.grew g⟩⟩
theorem OpsAt.at_ {w : World} {v : Value} {os : List Opr} (h : OpsAt w v os) (i : Nat) (hi : i < os.length) : ∃ b o c fv, v = .slice (some ⟨b, o, none⟩) os.length c ∧ os.length ≤ c ∧ OpIn w b (o + i * 4) os[i] fv := by
  obtain ⟨A, c, rfl, hc, hr⟩ := h
  obtain ⟨b, o, rfl, hf⟩ := hr (by omega)
  obtain ⟨fv, h1⟩ := hf i _ (List.getElem?_eq_getElem hi)
  exact ⟨b, o, c, fv, rfl, hc, h1⟩
theorem all_upto {α : Type} {l : List α} {p : α → Prop} (h : ∀ j x, l[j]? = some x → j < l.length → p x) : ∀ x ∈ l, p x := fun x hx => by
  obtain ⟨j, hj⟩ := List.mem_iff_getElem?.1 hx
  exact h j x hj (List.getElem?_eq_some_iff.1 hj).1
def GreatT (cs : List Cmd) (os : List Opr) (w : World) (e : Ending) (w' : World) : Prop :=
  ∃ r : Bool, e = .returned (.bool r) ∧ w = w' ∧ (r = false → (∀ c ∈ cs, c.b.length ≤ 1100) ∧ cs.length ≤ 20 ∧ (∀ q ∈ os, q.fs.length ≤ 1100) ∧ os.length ≤ 60)
def MayT (cs : List Cmd) (tmo tries : Int) (w : World) (e : Ending) (w' : World) : Prop :=
  ∃ r : Bool, e = .returned (.bool r) ∧ Grew w w' ∧ (r = true ↔ mayDlg cs tmo tries)
-- [GREAT
set_option maxRecDepth 100000 in
set_option maxHeartbeats 4000000 in
theorem law_great (X : Nat → Prop) (lv ov : Value) (cs : List Cmd) (os : List Opr) (w : World) (h1 : CmdsAt X w lv cs) (h2 : OpsAt w ov os) (n1 : cs.length ≤ 281474976710656) (n2 : os.length ≤ 281474976710656) (m1 : ∀ c ∈ cs, c.b.length ≤ 281474976710656) (m2 : ∀ q ∈ os, q.fs.length ≤ 281474976710656) :
    Calls Try.prog 5 #[lv, ov] w (GreatT cs os w) := by
  have H1 := Lib.hid h1
  have H2 := Lib.hid h2
  have M1 := Lib.hid m1
  have M2 := Lib.hid m2
  obtain ⟨A1, c1, rfl, hc1, _⟩ := h1
  obtain ⟨A2, c2, rfl, hc2, _⟩ := h2
  clear m1 m2
  go_enter Try.func5, Try.ntmps5
  go_wp2_with fail
  go_loop [9] (fun i => ∃ k : Nat, k ≤ cs.length ∧ i = .int .i64 (k : Nat) ∧ Hid (∀ j x, cs[j]? = some x → j < k → x.b.length ≤ 1100)) (fun i => cs.length - (intOf i).toNat)
  case atStart => exact ⟨0, Nat.zero_le _, rfl, Lib.hid (fun j x _ h => absurd h (Nat.not_lt_zero _))⟩
  case round =>
    obtain ⟨k, hk, rfl, HA⟩ := hrel
    by_cases hlt : k < cs.length
    · obtain ⟨b, o, cc, fv, e, _, hd, _⟩ := H1.out.at_ k hlt
      cases e
      have q0 := hd.c0
      have hb := hd.lt
      have hm := M1.out _ (List.getElem_mem hlt)
      obtain ⟨A3, c3, rfl, hc3, _⟩ := hd.row
      have hki : (k : Int) < cs.length := by omega
      obtain ⟨n, HS⟩ : ∃ n, Hid (cs[k].b.length = n) := ⟨_, Lib.hid rfl⟩
      rw [HS.out] at q0 hm hc3
      clear hd
      by_cases h2 : n ≤ 1100
      · have h2' : ¬ (1100 : Int) < n := by omega
        go_wp2_with fail
        go_round
        case rel => exact ⟨k + 1, by omega, by go_num, Lib.hid (fun j x hj hk => by
          by_cases e : j = k
          · subst e; rw [List.getElem?_eq_getElem hlt] at hj; cases hj; rw [HS.out]; exact h2
          · exact HA.out j x hj (by omega))⟩
        case measure => simp [intOf]; omega
      · have h2' : (1100 : Int) < n := by omega
        go_wp2_with fail
        go_ret
        exact ⟨true, rfl, rfl, fun q => by cases q⟩
    · obtain rfl : k = cs.length := by omega
      have HC := Lib.hid (all_upto (p := fun x : Cmd => x.b.length ≤ 1100) (fun j x h1 h2 => HA.out j x h1 h2))
      go_wp2_with fail
      go_loop [22] (fun i => ∃ k : Nat, k ≤ os.length ∧ i = .int .i64 (k : Nat) ∧ Hid (∀ j x, os[j]? = some x → j < k → x.fs.length ≤ 1100)) (fun i => os.length - (intOf i).toNat)
      case atStart => exact ⟨0, Nat.zero_le _, rfl, Lib.hid (fun j x _ h => absurd h (Nat.not_lt_zero _))⟩
      case round =>
        obtain ⟨k, hk, rfl, HB⟩ := hrel
        by_cases hlt : k < os.length
        · obtain ⟨b, o, cc, fv, e, _, hd⟩ := H2.out.at_ k hlt
          cases e
          have q0 := hd.c3
          have hb := hd.lt
          have hm := M2.out _ (List.getElem_mem hlt)
          obtain ⟨A3, c3, rfl, hc3, _⟩ := hd.row
          have hki : (k : Int) < os.length := by omega
          obtain ⟨n, HS⟩ : ∃ n, Hid (os[k].fs.length = n) := ⟨_, Lib.hid rfl⟩
          rw [HS.out] at q0 hm hc3
          clear hd
          by_cases h2 : n ≤ 1100
          · have h2' : ¬ (1100 : Int) < n := by omega
            go_wp2_with fail
            go_round
            case rel => exact ⟨k + 1, by omega, by go_num, Lib.hid (fun j x hj hk => by
              by_cases e : j = k
              · subst e; rw [List.getElem?_eq_getElem hlt] at hj; cases hj; rw [HS.out]; exact h2
              · exact HB.out j x hj (by omega))⟩
            case measure => simp [intOf]; omega
          · have h2' : (1100 : Int) < n := by omega
            go_wp2_with fail
            go_ret
            exact ⟨true, rfl, rfl, fun q => by cases q⟩
        · obtain rfl : k = os.length := by omega
          have HD := Lib.hid (all_upto (p := fun x : Opr => x.fs.length ≤ 1100) (fun j x h1 h2 => HB.out j x h1 h2))
          by_cases a1 : cs.length ≤ 20
          · have a1' : ¬ (20 : Int) < cs.length := by omega
            by_cases a2 : os.length ≤ 60
            · have a2' : ¬ (60 : Int) < os.length := by omega
              go_wp2_with fail
              go_ret
              exact ⟨false, rfl, rfl, fun _ => ⟨HC.out, a1, HD.out, a2⟩⟩
            · have a2' : (60 : Int) < os.length := by omega
              go_wp2_with fail
              go_ret
              exact ⟨true, rfl, rfl, fun q => by cases q⟩
          · have a1' : (20 : Int) < cs.length := by omega
            go_wp2_with fail
            go_ret
            exact ⟨true, rfl, rfl, fun q => by cases q⟩
-- GREAT]
-- [MAY
set_option maxRecDepth 100000 in
set_option maxHeartbeats 4000000 in
theorem law_may (X : Nat → Prop) (lv : Value) (cs : List Cmd) (tmo tries : Int) (w : World) (h1 : CmdsAt X w lv cs) (n1 : cs.length ≤ 20) (m1 : ∀ c ∈ cs, c.b.length ≤ 1100) (ht : -9223372036854775808 ≤ tmo ∧ tmo ≤ 9223372036854775807) (hr : -9223372036854775808 ≤ tries ∧ tries ≤ 9223372036854775807) :
    Calls Try.prog 8 #[lv, .int .i64 tmo, .int .i64 tries] w (MayT cs tmo tries w) := by
  have H1 := Lib.hid h1
  have M1 := Lib.hid m1
  obtain ⟨A1, c1, rfl, hc1, _⟩ := h1
  clear m1
  go_enter Try.func8, Try.ntmps8
  go_wp2_with fail
  go_loopw [11] (fun i wr => ∃ k : Nat, k ≤ cs.length ∧ i = .int .i64 (k : Nat) ∧ Hid (Grew w wr) ∧ Hid (∀ j x, cs[j]? = some x → j < k → mayCmd x)) (fun i _ => cs.length - (intOf i).toNat)
  case atStart => exact ⟨0, Nat.zero_le _, rfl, Lib.hid (Grew.refl _), Lib.hid (fun j x _ h => absurd h (Nat.not_lt_zero _))⟩
  case round =>
    obtain ⟨k, hk, rfl, G, HA⟩ := hrel
    by_cases hlt : k < cs.length
    · obtain ⟨b, o, cc, fv, e, _, hd, _⟩ := (H1.out.grew G.out).at_ k hlt
      cases e
      have hb := hd.lt
      have hm := M1.out _ (List.getElem_mem hlt)
      obtain ⟨A3, c3, rfl, hc3, _⟩ := id hd.row
      have q0 := hd.c0
      have q1 := hd.c1
      have q2 := hd.c2
      have q3 := hd.c3
      have kw := hd.kw
      have hki : (k : Int) < cs.length := by omega
      have hgk : Hid (cs[k]? = some cs[k]) := Lib.hid (List.getElem?_eq_getElem hlt)
      have hrow := hd.row
      clear hd
      generalize cs[k] = q at *
      obtain ⟨V, hV⟩ : ∃ V, wr.alloc (.cells #[.slice A3 q.b.length c3, .int .u8 (q.wait : Nat), .int .u8 (q.cls : Nat), .int .u8 (q.id : Nat)] 28) = V := ⟨_, rfl⟩
      have gV : Grew wr V := by rw [← hV]; exact (Grew.refl wr).alloc _
      have HM := Lib.hid (ref14_May q _ V (hrow.grew gV) kw (by omega))
      go_upto_region 4 with fail
      try rw [hV]
      have v0 : V.cell? ⟨wr.heap.size, 0, none⟩ = some (.slice A3 q.b.length c3) := by rw [← hV]; simp [go_sem]
      have v1 : V.cell? ⟨wr.heap.size, 1, none⟩ = some (.int .u8 (q.wait : Nat)) := by rw [← hV]; simp [go_sem]
      have v2 : V.cell? ⟨wr.heap.size, 2, none⟩ = some (.int .u8 (q.cls : Nat)) := by rw [← hV]; simp [go_sem]
      have v3 : V.cell? ⟨wr.heap.size, 3, none⟩ = some (.int .u8 (q.id : Nat)) := by rw [← hV]; simp [go_sem]
      have lV : wr.heap.size < V.heap.size := by rw [← hV]; simp
      clear hV q0 q1 q2 q3
      have G2 := Lib.hid (G.out.trans gV)
      by_cases hy : mayCmd q
      · rw [decide_eq_true hy] at HM
        go_wp2_with (go_at_call 24; refine HM.out.mono ?_; rintro e w4 ⟨rfl, g4⟩)
        go_round
        case rel => exact ⟨k + 1, by omega, by go_num, Lib.hid (G2.out.trans g4), Lib.hid (fun j x hj hk => by
          by_cases e : j = k
          · subst e; rw [hgk.out] at hj; cases hj; exact hy
          · exact HA.out j x hj (by omega))⟩
        case measure => simp [intOf]; omega
      · rw [decide_eq_false hy] at HM
        go_wp2_with (go_at_call 24; refine HM.out.mono ?_; rintro e w4 ⟨rfl, g4⟩)
        go_ret
        exact ⟨false, rfl, G2.out.trans g4, fun q => (by cases q), fun q => absurd (q.1 _ (List.mem_of_getElem? hgk.out)) hy⟩
    · obtain rfl : k = cs.length := by omega
      have HC := Lib.hid (all_upto (p := mayCmd) (fun j x h1 h2 => HA.out j x h1 h2))
      by_cases a0 : cs.length ≤ 16
      · have b0 : (cs.length : Int) ≤ 16 := by omega
        by_cases a1 : 100000000 ≤ tmo
        · have b1 : 100000000 ≤ tmo := by omega
          by_cases a2 : tmo ≤ 10000000000
          · have b2 : tmo ≤ 10000000000 := by omega
            by_cases a3 : 1 ≤ tries
            · have b3 : 1 ≤ tries := by omega
              by_cases a4 : tries ≤ 8
              · have b4 : tries ≤ 8 := by omega
                go_wp2_with fail
                go_ret
                exact ⟨true, rfl, G.out, fun _ => ⟨HC.out, a0, a1, a2, a3, a4⟩, fun _ => rfl⟩
              · have b4 : ¬ tries ≤ 8 := by omega
                go_wp2_with fail
                go_ret
                exact ⟨false, rfl, G.out, fun q => (by cases q), fun q => absurd q (fun q => by have := q.2.2.2.2.2; omega)⟩
            · have b3 : ¬ 1 ≤ tries := by omega
              go_wp2_with fail
              go_ret
              exact ⟨false, rfl, G.out, fun q => (by cases q), fun q => absurd q (fun q => by have := q.2.2.2.2.1; omega)⟩
          · have b2 : ¬ tmo ≤ 10000000000 := by omega
            go_wp2_with fail
            go_ret
            exact ⟨false, rfl, G.out, fun q => (by cases q), fun q => absurd q (fun q => by have := q.2.2.2.1; omega)⟩
        · have b1 : ¬ 100000000 ≤ tmo := by omega
          go_wp2_with fail
          go_ret
          exact ⟨false, rfl, G.out, fun q => (by cases q), fun q => absurd q (fun q => by have := q.2.2.1; omega)⟩
      · have b0 : ¬ (cs.length : Int) ≤ 16 := by omega
        go_wp2_with fail
        go_ret
        exact ⟨false, rfl, G.out, fun q => (by cases q), fun q => absurd q (fun q => by have := q.2.1; omega)⟩
-- MAY]
end Go.Proofs.Ytcdmbnbanopioaa
