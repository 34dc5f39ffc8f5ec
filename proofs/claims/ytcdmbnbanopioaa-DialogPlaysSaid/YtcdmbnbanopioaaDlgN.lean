/-
  The document's dialogue: a new one, a copy; which command may be.
-/
import Derived.Test.YtcdmbnbanopioaaDlgT
import Derived.Test.YtcdmbnbanopioaaUbrC
import Derived.Deep.RegionHeldLaw
namespace Go.Proofs.Ytcdmbnbanopioaa
open Go.RowKit
set_option linter.unusedVariables false

/-- Commands behind a slice value; their bytes lie in blocks of X alone. -/
def CmdsAt (X : Nat → Prop) (w : World) (v : Value) (cs : List Cmd) : Prop :=
  ∃ A c, v = .slice A cs.length c ∧ cs.length ≤ c ∧ (0 < cs.length → ∃ b o, A = some ⟨b, o, none⟩ ∧
    ∀ i q, cs[i]? = some q → ∃ fv, CmdIn w b (o + i * 4) q fv ∧ (0 < q.b.length → ∀ b, fv.ownBlock = some b → X b))
theorem CmdsAt.grew {X : Nat → Prop} {w w' : World} {v : Value} {cs : List Cmd} (h : CmdsAt X w v cs) (g : Grew w w') : CmdsAt X w' v cs := by
  obtain ⟨A, c, rfl, hc, hr⟩ := h
  refine ⟨A, c, rfl, hc, fun hn => ?_⟩
  obtain ⟨b, o, rfl, hf⟩ := hr hn
  refine ⟨b, o, rfl, fun i r hi => ?_⟩
  obtain ⟨fv, h1, h2⟩ := hf i r hi
  exact ⟨fv, h1.far (F := fun _ => False) (Far.of_grew g) (fun h => h) (fun _ _ h => h), h2⟩
theorem CmdsAt.at_ {X : Nat → Prop} {w : World} {v : Value} {cs : List Cmd} (h : CmdsAt X w v cs) (i : Nat) (hi : i < cs.length) :
    ∃ b o c fv, v = .slice (some ⟨b, o, none⟩) cs.length c ∧ cs.length ≤ c ∧ CmdIn w b (o + i * 4) cs[i] fv ∧ (0 < cs[i].b.length → ∀ b, fv.ownBlock = some b → X b) := by
  obtain ⟨A, c, rfl, hc, hr⟩ := h
  obtain ⟨b, o, rfl, hf⟩ := hr (by omega)
  obtain ⟨fv, h1, h2⟩ := hf i _ (List.getElem?_eq_getElem hi)
  exact ⟨b, o, c, fv, rfl, hc, h1, h2⟩
/-- Which command may be. -/
def mayCmd (c : Cmd) : Prop := 0 < c.b.length ∧ c.b.length ≤ 1040 ∧ c.wait < 3
instance (c : Cmd) : Decidable (mayCmd c) := by unfold mayCmd; exact inferInstance
/-- Five cells side by side, none shared. -/
structure FiveAt (w : World) (p : Nat) (x0 x1 x2 x3 x4 : Value) : Prop where
  lt : p < w.heap.size
  c0 : w.cell? ⟨p, 0, none⟩ = some x0
  c1 : w.cell? ⟨p, 1, none⟩ = some x1
  c2 : w.cell? ⟨p, 2, none⟩ = some x2
  c3 : w.cell? ⟨p, 3, none⟩ = some x3
  c4 : w.cell? ⟨p, 4, none⟩ = some x4
  f0 : w.frozen? ⟨p, 0, none⟩ = false
  f3 : w.frozen? ⟨p, 3, none⟩ = false
  f4 : w.frozen? ⟨p, 4, none⟩ = false
theorem five_new (w : World) (x0 x1 x2 x3 x4 : Value) (E : TypeId) : ∃ W, w.alloc (.cells #[x0, x1, x2, x3, x4] E) = W ∧ Grew w W ∧ FiveAt W w.heap.size x0 x1 x2 x3 x4 :=
  ⟨_, rfl, (Grew.refl _).alloc _, by simp, by simp [go_sem], by simp [go_sem], by simp [go_sem], by simp [go_sem], by simp [go_sem], by simp [go_sem], by simp [go_sem], by simp [go_sem]⟩
theorem FiveAt.far {F : Nat → Prop} {w w' : World} {p : Nat} {x0 x1 x2 x3 x4 : Value} (h : FiveAt w p x0 x1 x2 x3 x4) (g : Far F w w') (hF : ¬ F p) : FiveAt w' p x0 x1 x2 x3 x4 :=
  ⟨Nat.lt_of_lt_of_le h.lt g.size, (g.cell (p := ⟨p, 0, none⟩) h.lt hF).trans h.c0, (g.cell (p := ⟨p, 1, none⟩) h.lt hF).trans h.c1, (g.cell (p := ⟨p, 2, none⟩) h.lt hF).trans h.c2, (g.cell (p := ⟨p, 3, none⟩) h.lt hF).trans h.c3, (g.cell (p := ⟨p, 4, none⟩) h.lt hF).trans h.c4,
    (g.frozen (p := ⟨p, 0, none⟩) h.lt hF).trans h.f0, (g.frozen (p := ⟨p, 3, none⟩) h.lt hF).trans h.f3, (g.frozen (p := ⟨p, 4, none⟩) h.lt hF).trans h.f4⟩
theorem FiveAt.grew {w w' : World} {p : Nat} {x0 x1 x2 x3 x4 : Value} (h : FiveAt w p x0 x1 x2 x3 x4) (g : Grew w w') : FiveAt w' p x0 x1 x2 x3 x4 := h.far (F := fun _ => False) (Far.of_grew g) (fun q => q)
theorem FiveAt.put0 {w : World} {p : Nat} {x0 x1 x2 x3 x4 : Value} (h : FiveAt w p x0 x1 x2 x3 x4) (u : Value) : FiveAt (w.setCell ⟨p, 0, none⟩ u) p u x1 x2 x3 x4 := by
  obtain ⟨l, c0, c1, c2, c3, c4, f0, f3, f4⟩ := h
  have ne : ∀ {i j : Nat}, i ≠ j → (⟨p, i, none⟩ : Addr) ≠ ⟨p, j, none⟩ := fun hj e => hj (by injection e)
  exact ⟨by simpa [World.setCell] using l, World.cell?_setCell_same _ _ _ c0, (World.cell?_setCell_other _ _ _ _ (ne (by omega))).trans c1, (World.cell?_setCell_other _ _ _ _ (ne (by omega))).trans c2, (World.cell?_setCell_other _ _ _ _ (ne (by omega))).trans c3, (World.cell?_setCell_other _ _ _ _ (ne (by omega))).trans c4,
    by simpa [go_sem] using f0, by simpa [go_sem] using f3, by simpa [go_sem] using f4⟩
/-- A dialogue out of its cells and its list of its own. -/
theorem dlg_made {X : Nat → Prop} {w : World} {p n g2 cap base : Nat} {E : TypeId} {L : Value} {d : Dlg} {vs : List Value} (h : FiveAt w p L (.int .i64 d.tmo) (.int .i64 (d.tries : Nat)) (.int .i64 d.now) (.bool d.came))
    (hc : CellsAt w 7 L d.rows.length (flatC d.rows vs)) (hvl : vs.length = d.rows.length) (hok : ∀ (i : Nat) (r : DRow) (fv : Value), d.rows[i]? = some r → vs[i]? = some fv → RowOk X w r fv)
    (own : ∀ b, L.ownBlock = some b → b < w.heap.size ∧ b ≠ p ∧ ¬ X b) (out : ¬ X p) (kl : d.rows.length ≤ 20) (kn : -9223372036854775808 ≤ d.now ∧ d.now ≤ 9223372036854775807) (kt : 100000000 ≤ d.tmo ∧ d.tmo ≤ 10000000000) (kr : 1 ≤ d.tries ∧ d.tries ≤ 8) : DlgAt X w p L d :=
  ⟨h.lt, h.c0, h.c1, h.c2, h.c3, h.c4, h.f0, h.f3, h.f4, DRowsAt.of_flat hvl hc hok, own, out, kl, kn, kt, kr⟩
-- [COPY
set_option maxRecDepth 100000 in
set_option maxHeartbeats 4000000 in
theorem ref14_Copy (X : Nat → Prop) (g : Nat) (L : Value) (d : Dlg) (w : World) (h : DlgAt X w g L d) (hX : ∀ b, X b → b < w.heap.size) :
    Calls Try.prog 15 #[.pointer (some ⟨g, 0, none⟩)] w fun e w' => ∃ p L', e = .returned (.pointer (some ⟨p, 0, none⟩)) ∧ w.heap.size ≤ p ∧ (∀ b, L'.ownBlock = some b → w.heap.size ≤ b) ∧ DlgAt X w' p L' d ∧ Grew w w' := by
  have HH := Lib.hid h
  obtain ⟨lt, c0, c1, c2, c3, c4, f0, f3, f4, hrows, own, out, kl, kn, kt, kr⟩ := h
  obtain ⟨vs, hvl, hflat, hok⟩ := hrows.flat
  obtain ⟨A, c, rfl, hc, hr⟩ := hrows
  clear hr
  have hone : ∀ x ∈ flatC d.rows vs, x.oneCell' = true := flatC_one _ _ (vs_one hvl hok)
  go_enter Try.func15, Try.ntmps15
  go_upto_region 2 with fail
  obtain ⟨V, hV, gV, TV⟩ := five_new w (.slice A d.rows.length c) (.int .i64 d.tmo) (.int .i64 (d.tries : Nat)) (.int .i64 d.now) (.bool d.came) 57
  rw [hV]
  clear hV
  have TV1 := Lib.hid TV
  have hsz : w.heap.size < V.heap.size := TV.lt
  have hO : (V.alloc (.cells #[] 59)).ownsRow V.heap.size 59 7 (.slice (some ⟨V.heap.size, 0, none⟩) 0 0) 0 [] := ⟨rfl, .inr ⟨_, 0, #[], rfl, Nat.le_refl _, heap_alloc_new V _, Nat.le_refl _, Nat.zero_le _, rfl, rfl⟩⟩
  have D0 := gV.alloc (.cells #[] 59)
  have hflat1 : CellsAt (V.alloc (.cells #[] 59)) 7 (.slice A d.rows.length c) d.rows.length (flatC d.rows vs) := hflat.far (F := fun _ => False) (Far.of_grew D0) (fun _ _ h => h)
  have cc := (D0.cell (p := ⟨g, 0, none⟩) lt).trans c0
  have lt6 := Nat.lt_of_lt_of_le lt D0.size
  have HVL := Lib.hid hvl
  clear hvl c0 c1 c2 c3 c4 f0 f3 f4 TV
  go_wp2_with (refine wpList_joinC _ rfl _ _ 55 rfl V.heap.size 59 _ 7 56 rfl infoRow14 rfl (by decide) (.slice (some ⟨V.heap.size, 0, none⟩) 0 0) 0 [] rfl hO (.slice A d.rows.length c) d.rows.length (flatC d.rows vs) rfl hflat1 hone (by unfold maxLen; omega) (by omega) (by simp) ?_; intro v2 w2 hown2 hgrow2 hnil2; have G12 : Grew V w2 := Below.grown ((Grew.refl V).alloc (.cells #[] 59)) hgrow2 ((Grew.refl V).alloc (.cells #[] 59)).size (fun b hb => (World.ownsRow.lt hO b hb).1); have HF := own_form hown2 (fun e => by have e2 := hnil2.1 e; cases e2.1); obtain ⟨g2, cap2, rfl, hg2, hlt2, hcap2⟩ := HF; rw [Nat.zero_add, List.nil_append] at hown2; obtain ⟨m0, m1, m2, m3, m4, m5, m6, m7, m8⟩ := TV1.out.grew G12)
  go_ret
  have hne : ¬ g2 = w.heap.size := by omega
  have F := (Far.refl (fun k => k = w.heap.size) w2).setCell (p := ⟨w.heap.size, 0, none⟩) rfl (.slice (some ⟨g2, 0, none⟩) d.rows.length cap2)
  have GG : Grew w (w2.setCell ⟨w.heap.size, 0, none⟩ (.slice (some ⟨g2, 0, none⟩) d.rows.length cap2)) := (gV.trans G12).setCell (Nat.le_refl _) _
  refine ⟨w.heap.size, .slice (some ⟨g2, 0, none⟩) d.rows.length cap2, rfl, Nat.le_refl _, fun b hb => (by simp [Value.ownBlock] at hb; omega), ?_, GG⟩
  refine dlg_made (n := 0) (g2 := 0) (cap := 0) (base := 0) (E := 0) (vs := vs) ((TV1.out.grew G12).put0 _) ((CellsAt.of_own hown2).far F (fun b hb e => hne (by simp [Value.ownBlock] at hb; rw [hb]; exact e))) HVL.out (fun i r fv h1 h2 => (hok i r fv h1 h2).far (F := fun _ => False) (Far.of_grew GG) (fun _ _ h => h)) (fun b hb => ?_) (fun hx => absurd (hX _ hx) (Nat.lt_irrefl _)) kl kn kt kr
  have : b = g2 := by simpa [Value.ownBlock] using hb.symm
  subst this
  exact ⟨by simpa [World.setCell] using hlt2, hne, fun hx => by have := hX _ hx; omega⟩
-- COPY]
-- [MAY
set_option maxRecDepth 100000 in
set_option maxHeartbeats 4000000 in
theorem ref14_May (q : Cmd) (v : Value) (w : World) (hr : Row .u8 w v q.b) (hw : q.wait < 256) (hl : q.b.length ≤ 100000) :
    Calls Try.prog 24 #[.agg #[v, .int .u8 (q.wait : Nat), .int .u8 (q.cls : Nat), .int .u8 (q.id : Nat)]] w fun e w' => e = .returned (.bool (decide (mayCmd q))) ∧ Grew w w' := by
  obtain ⟨A, c, rfl, hc, _⟩ := hr
  go_enter Try.func24, Try.ntmps24
  go_upto_region 1 with fail
  obtain ⟨V, hV⟩ : ∃ V, w.alloc (.cells #[.slice A q.b.length c, .int .u8 (q.wait : Nat), .int .u8 (q.cls : Nat), .int .u8 (q.id : Nat)] 28) = V := ⟨_, rfl⟩
  have G := Lib.hid (show Grew w V by rw [← hV]; exact (Grew.refl w).alloc _)
  have lp : w.heap.size < V.heap.size := by rw [← hV]; simp
  have v0 : V.cell? ⟨w.heap.size, 0, none⟩ = some (.slice A q.b.length c) := by rw [← hV]; simp [go_sem]
  have v1 : V.cell? ⟨w.heap.size, 1, none⟩ = some (.int .u8 (q.wait : Nat)) := by rw [← hV]; simp [go_sem]
  rw [hV]
  clear hV
  obtain ⟨n, hn⟩ : ∃ n, q.b.length = n := ⟨_, rfl⟩
  obtain ⟨k, hk⟩ : ∃ k, q.wait = k := ⟨_, rfl⟩
  have hm : Hid (decide (mayCmd q) = decide (0 < n ∧ n ≤ 1040 ∧ k < 3)) := Lib.hid (decide_eq_decide.2 (by unfold mayCmd; rw [hn, hk]))
  rw [hn] at v0 hl hc
  rw [hk] at v1 hw
  simp only [hn, hk]
  clear hn hk
  by_cases a1 : 0 < n
  · by_cases a2 : n ≤ 1040
    · by_cases a3 : k < 3
      · have b1 : (0 : Int) < n := by omega
        have b2 : (n : Int) ≤ 1040 := by omega
        have b3 : (k : Int) < 3 := by omega
        have hy : Hid (decide (mayCmd q) = true) := Lib.hid (hm.out.trans (decide_eq_true ⟨a1, a2, a3⟩))
        go_wp2_with fail
        go_ret
        exact ⟨by rw [hy.out]; rfl, G.out⟩
      · have b1 : (0 : Int) < n := by omega
        have b2 : (n : Int) ≤ 1040 := by omega
        have b3 : ¬ (k : Int) < 3 := by omega
        have hy : Hid (decide (mayCmd q) = false) := Lib.hid (hm.out.trans (decide_eq_false (fun q => a3 q.2.2)))
        go_wp2_with fail
        go_ret
        exact ⟨by rw [hy.out]; rfl, G.out⟩
    · have b1 : (0 : Int) < n := by omega
      have b2 : ¬ (n : Int) ≤ 1040 := by omega
      have hy : Hid (decide (mayCmd q) = false) := Lib.hid (hm.out.trans (decide_eq_false (fun q => a2 q.2.1)))
      go_wp2_with fail
      go_ret
      exact ⟨by rw [hy.out]; rfl, G.out⟩
  · have b1 : ¬ (0 : Int) < n := by omega
    have hy : Hid (decide (mayCmd q) = false) := Lib.hid (hm.out.trans (decide_eq_false (fun q => a1 q.1)))
    go_wp2_with fail
    go_ret
    exact ⟨by rw [hy.out]; rfl, G.out⟩
-- MAY]
theorem step_joinC {P : Program} (w : World) {ops : Array Oper} {o : Oper} {a : Act} {K : Act → World → Prop} {Q : Exit → Act → World → Prop} {X : Prop} (hgd : o.guard = none) (s x : Operand) (t : TypeId)
    (ho : o.op = .call { callee := .builtin .append, args := #[s, x], argTypes := #[t, t] })
    (base : Nat) (E : TypeId) (z : Value) (size bytes : Nat) (ht : P.underlying t = some (.slice E)) (hi : (P.info? E).map (fun i => (i.zero, i.size, i.bytes)) = some (some z, size, bytes)) (hzs : z.cells.size = size) (hsz : 0 < size)
    (v : Value) (n : Nat) (xs : List Value) (hs : a.eval s = v) (hown : w.ownsRow base E size v n xs)
    (u : Value) (m : Nat) (ys : List Value) (hx : a.eval x = u) (hrow : CellsAt w size u m ys) (h1 : ∀ u ∈ ys, u.oneCell' = true)
    (hmax : n + m ≤ maxLen) (hlen : (n + m) * bytes ≤ 140737488355328) (hbase : base ≤ w.heap.size)
    (h : ∀ v' w', w'.ownsRow base E size v' (n + m) (xs ++ ys) → w.grownBy w' v.ownBlock → (v' = .slice none 0 0 ↔ v = .slice none 0 0 ∧ m = 0) → K (a.put o.dst v') w') : if Region.wanted o (yielded ops a.tmps) = true then Oper.wp P o a w K Q else X := by
  rw [if_pos (by simp [Region.wanted, hgd])]
  exact wp_joinC w s x t ho base E z size bytes ht hi hzs hsz v n xs hs hown u m ys hx hrow h1 hmax hlen hbase h
theorem flatC_append : ∀ (rs : List DRow) (vs : List Value) (r : DRow) (v : Value), vs.length = rs.length → flatC (rs ++ [r]) (vs ++ [v]) = flatC rs vs ++ rowCells r v
  | [], [], r, v, _ => by simp [flatC]
  | _ :: _, [], _, _, h => by simp at h
  | [], _ :: _, _, _, h => by simp at h
  | a :: rs, b :: vs, r, v, h => by
    rw [List.cons_append, List.cons_append, flatC, flatC_append rs vs r v (by simpa using h), flatC, List.append_assoc]
theorem ownsRow_grew {w w' : World} {base E size : Nat} {v : Value} {n : Nat} {xs : List Value} (h : w.ownsRow base E size v n xs) (g : Grew w w') : w'.ownsRow base E size v n xs := by
  obtain ⟨h1, h2⟩ := h
  refine ⟨h1, ?_⟩
  rcases h2 with h2 | ⟨b, cap, cur, e, hb, hh, r⟩
  · exact .inl h2
  · exact .inr ⟨b, cap, cur, e, hb, (Below.block g b (Array.getElem?_eq_some_iff.1 hh).1).trans hh, r⟩
theorem far_grown {w w' : World} {o : Option Nat} (h : w.grownBy w' o) : Far (fun b => o = some b) w w' :=
  ⟨h.os, h.tape, h.output, h.size, fun k hk hF => h.block k hk (fun e => hF e.symm)⟩
theorem ownsRow_put {w : World} {base E size g2 cap p j n : Nat} {xs : List Value} {u : Value} (h : w.ownsRow base E size (.slice (some ⟨g2, 0, none⟩) n cap) n xs) (hne : ¬ g2 = p) : (w.setCell ⟨p, j, none⟩ u).ownsRow base E size (.slice (some ⟨g2, 0, none⟩) n cap) n xs := by
  obtain ⟨h1, h2⟩ := h
  refine ⟨h1, ?_⟩
  rcases h2 with ⟨h2, _⟩ | ⟨b, cap, cur, e, hb, hh, r⟩
  · cases h2
  · have eb : b = g2 := by cases e; rfl
    exact .inr ⟨b, cap, cur, e, hb, ((Far.one w ⟨p, j, none⟩ u).block b (Array.getElem?_eq_some_iff.1 hh).1 (fun q => hne (by rw [← eb]; exact q))).trans hh, r⟩
theorem cells_one (w : World) (x0 x1 x2 x3 x4 x5 x6 : Value) (E : TypeId) : CellsAt (w.alloc (.cells #[x0, x1, x2, x3, x4, x5, x6] E)).drew 7 (.slice (some ⟨w.heap.size, 0, none⟩) 1 1) 1 [x0, x1, x2, x3, x4, x5, x6] := by
  refine ⟨rfl, _, 1, rfl, Nat.le_refl _, fun _ => ⟨w.heap.size, 0, rfl, by simp [World.drew], fun j x hj => ?_⟩⟩
  have : (w.alloc (.cells #[x0, x1, x2, x3, x4, x5, x6] E)).drew.cell? ⟨w.heap.size, 0 + j, none⟩ = (w.alloc (.cells #[x0, x1, x2, x3, x4, x5, x6] E)).cell? ⟨w.heap.size, 0 + j, none⟩ := rfl
  rw [this, World.cell?_alloc_new, Nat.zero_add]
  simpa using hj
/-- What New's loop has made of the first so many commands. -/
structure NewAt (X : Nat → Prop) (w W : World) (B k : Nat) (L : Value) (rs : List DRow) (vs : List Value) : Prop where
  own : W.ownsRow (B + 1) 59 7 L k (flatC rs vs)
  len : vs.length = k ∧ rs.length = k
  ok : ∀ (i : Nat) (r : DRow) (fv : Value), rs[i]? = some r → vs[i]? = some fv → RowOk X W r fv
  grew : Grew w W
-- [NEW
set_option maxRecDepth 100000 in
set_option maxHeartbeats 4000000 in
theorem ref14_New (X : Nat → Prop) (v : Value) (cs : List Cmd) (tmo : Int) (tries : Nat) (w : World) (h : CmdsAt X w v cs) (hX : ∀ b, X b → b < w.heap.size) (hl : cs.length ≤ 16) (hk : ∀ c ∈ cs, c.wait < 256 ∧ c.cls < 256 ∧ c.id < 256) (hpos : ∀ c ∈ cs, 0 < c.b.length) (kt : 100000000 ≤ tmo ∧ tmo ≤ 10000000000) (kr : 1 ≤ tries ∧ tries ≤ 8) :
    Calls Try.prog 9 #[v, .int .i64 tmo, .int .i64 (tries : Nat)] w fun e w' => ∃ p L', e = .returned (.pointer (some ⟨p, 0, none⟩)) ∧ w.heap.size ≤ p ∧ (∀ b, L'.ownBlock = some b → w.heap.size ≤ b) ∧ DlgAt X w' p L' (dlgNew cs tmo tries) ∧ Grew w w' := by
  have HH := Lib.hid h
  obtain ⟨A, c, rfl, hc, _⟩ := h
  go_enter Try.func9, Try.ntmps9
  go_upto_region 2 with fail
  obtain ⟨V, hV, gV, TV⟩ := five_new w (.slice none 0 0) (.int .i64 tmo) (.int .i64 (tries : Nat)) (.int .i64 0) (.bool false) 57
  rw [hV]
  clear hV
  have hsz : w.heap.size < V.heap.size := TV.lt
  have TV0 := Lib.hid TV
  have O0 : NewAt X w V w.heap.size 0 (.slice none 0 0) [] [] := ⟨⟨rfl, .inl ⟨rfl, rfl⟩⟩, ⟨rfl, rfl⟩, fun i r fv h => by simp at h, gV⟩
  go_wp2_with fail
  go_loopw [8] (fun i wr => ∃ (k : Nat) (L : Value) (vs : List Value), k ≤ cs.length ∧ i = .int .i64 (k : Nat) ∧ Hid (NewAt X w wr w.heap.size k L ((cs.take k).map dlgRow) vs) ∧ Hid (FiveAt wr w.heap.size L (.int .i64 tmo) (.int .i64 (tries : Nat)) (.int .i64 0) (.bool false))) (fun i _ => cs.length - (intOf i).toNat)
  case atStart => exact ⟨0, _, [], Nat.zero_le _, rfl, Lib.hid O0, TV0⟩
  case round =>
    obtain ⟨k, L, vs, hk', rfl, HN, HT⟩ := hrel
    by_cases hlt : k < cs.length
    · obtain ⟨b, o, cc, fv, e, _, hd, hXf⟩ := HH.out.at_ k hlt
      cases e
      have G := HN.out.grew
      obtain ⟨A1, c1, rfl, hc1⟩ : ∃ A1 c1, L = .slice A1 k c1 ∧ k ≤ c1 := by obtain ⟨_, A1, c1, e, h1, _⟩ := CellsAt.of_own HN.out.own; exact ⟨A1, c1, e, h1⟩
      have hXf := hXf (hpos _ (List.getElem_mem hlt))
      have hqr := hd.row
      obtain ⟨A2, c2, rfl, hc2, _⟩ := id hqr
      have q0 := (G.cell (p := ⟨b, o + k * 4, none⟩) hd.lt).trans hd.c0
      have q1 := (G.cell (p := ⟨b, o + k * 4 + 1, none⟩) hd.lt).trans hd.c1
      have q2 := (G.cell (p := ⟨b, o + k * 4 + 2, none⟩) hd.lt).trans hd.c2
      have q3 := (G.cell (p := ⟨b, o + k * 4 + 3, none⟩) hd.lt).trans hd.c3
      have hbw := Nat.lt_of_lt_of_le hd.lt G.size
      obtain ⟨lp, m0, m1, m2, m3, m4, m5, m6, m7⟩ := HT.out
      have hki : (k : Int) < cs.length := by omega
      generalize hq : cs[k] = q at *
      obtain ⟨qb, qw, qc, qi⟩ := q
      simp only at q0 q1 q2 q3
      go_upto_region 5 with fail
      have gA := (Grew.refl wr).alloc (.cells #[.slice A2 qb.length c2, .int .u8 (qw : Nat), .int .u8 (qc : Nat), .int .u8 (qi : Nat), .int .i64 0, .int .i64 0, .int .i64 0] 59)
      have gA2 := Lib.hid gA.drew
      have HO1 := ownsRow_grew HN.out.own gA.drew
      have HL1 := cells_one wr (.slice A2 qb.length c2) (.int .u8 (qw : Nat)) (.int .u8 (qc : Nat)) (.int .u8 (qi : Nat)) (.int .i64 0) (.int .i64 0) (.int .i64 0) 59
      have e5 := (gA.drew.cell (p := ⟨w.heap.size, 0, none⟩) lp).trans m0
      have hbase : w.heap.size + 1 ≤ (wr.alloc (.cells #[.slice A2 qb.length c2, .int .u8 (qw : Nat), .int .u8 (qc : Nat), .int .u8 (qi : Nat), .int .i64 0, .int .i64 0, .int .i64 0] 59)).drew.heap.size := by have := gA.drew.size; omega
      have TA := Lib.hid (HT.out.grew gA.drew)
      have hbo : ∀ b, (Value.slice A1 k c1).ownBlock = some b → ¬ b = w.heap.size := fun b hb => by have := (World.ownsRow.lt HN.out.own b hb).1; omega
      go_region_law (refine step_joinC _ rfl _ _ 55 rfl (w.heap.size + 1) 59 _ 7 56 rfl infoRow14 rfl (by decide) (.slice A1 k c1) k _ rfl HO1 _ 1 _ rfl HL1 (fun u hu => by simp at hu; rcases hu with rfl | rfl | rfl | rfl | rfl | rfl | rfl <;> rfl) (by unfold maxLen; omega) (by omega) hbase ?_; intro v2 w2 hown2 hgrow2 hnil2; have HF := own_form (n := k + 1) (by rw [Nat.zero_add]; exact hown2) (fun e => absurd (hnil2.1 e).2 (by decide)); obtain ⟨g2, cap2, rfl, hg2, hlt2, hcap2⟩ := HF; have TB := TA.out.far (far_grown hgrow2) (fun e => hbo _ e rfl); obtain ⟨lp2, n0, n1, n2, n3, n4, n5, n6, n7⟩ := TB)
      all_goals
        have TB2 := Lib.hid (TA.out.far (far_grown hgrow2) (fun e => hbo _ e rfl))
        have hF2 := far_grown hgrow2
        have FP := (Far.refl (fun b => b = w.heap.size) w2).setCell (p := ⟨w.heap.size, 0, none⟩) rfl (.slice (some ⟨g2, 0, none⟩) (k + 1) cap2)
        have hne2 : ¬ g2 = w.heap.size := by omega
        clear n0 n1 n2 n3 n4 n5 n6 n7 m0 m1 m2 m3 m4 m5 m6 m7 q0 q1 q2 q3 e5
        have TC := Lib.hid (TB2.out.put0 (.slice (some ⟨g2, 0, none⟩) (k + 1) cap2))
        have hX3 : ∀ b, X b → ¬ (Value.slice A1 k c1).ownBlock = some b := fun b hb e => by have := hX b hb; have := (World.ownsRow.lt HN.out.own b e).1; omega
        have hXw2 : ∀ b, X b → ¬ b = w.heap.size := fun b hb e => by have := hX b hb; omega
        have hok2 : ∀ (i : Nat) (r : DRow) (fv : Value), ((cs.take k).map dlgRow)[i]? = some r → vs[i]? = some fv → RowOk X w2 r fv := fun i r fv h1 h2 => ((HN.out.ok i r fv h1 h2).far (F := fun _ => False) (Far.of_grew gA2.out) (fun _ _ h => h)).far hF2 hX3
        have hrow2 : RowOk X w2 (dlgRow ⟨qb, qw, qc, qi⟩) (.slice A2 qb.length c2) := by
          have hkq := hk _ (hq ▸ List.getElem_mem hlt)
          exact (show RowOk X (wr.alloc (.cells #[.slice A2 qb.length c2, .int .u8 (qw : Nat), .int .u8 (qc : Nat), .int .u8 (qi : Nat), .int .i64 0, .int .i64 0, .int .i64 0] 59)).drew _ _ from ⟨(hqr.grew G).grew gA2.out, hXf, hkq.1, hkq.2.1, hkq.2.2, by show (0 : Nat) < 4; decide, ⟨by show -9223372036854775808 ≤ (0 : Int); decide, by show (0 : Int) ≤ 9223372036854775807; decide⟩, by show (0 : Nat) ≤ 100; decide⟩).far hF2 hX3
        have hgw2 : Grew w w2 := Below.grown (G.trans gA2.out) hgrow2 (G.trans gA2.out).size (fun b hb => by have := (World.ownsRow.lt HN.out.own b hb).1; omega)
        have hmk : ((cs.take (k + 1)).map dlgRow) = ((cs.take k).map dlgRow) ++ [dlgRow ⟨qb, qw, qc, qi⟩] := by rw [← hq, List.take_succ_eq_append_getElem hlt, List.map_append]; rfl
        have hlen := HN.out.len
        have NB : NewAt X w (w2.setCell ⟨w.heap.size, 0, none⟩ (.slice (some ⟨g2, 0, none⟩) (k + 1) cap2)) w.heap.size (k + 1) (.slice (some ⟨g2, 0, none⟩) (k + 1) cap2) ((cs.take (k + 1)).map dlgRow) (vs ++ [.slice A2 qb.length c2]) := by
          rw [hmk]
          refine ⟨?_, ⟨by rw [List.length_append, hlen.1]; rfl, by rw [List.length_append, hlen.2]; rfl⟩, fun i r fv h1 h2 => ?_, hgw2.setCell (Nat.le_refl _) _⟩
          · rw [flatC_append _ _ _ _ (hlen.1.trans hlen.2.symm)]
            exact ownsRow_put hown2 hne2
          · refine RowOk.far ?_ FP hXw2
            rw [List.getElem?_append] at h1 h2
            rw [hlen.2] at h1
            rw [hlen.1] at h2
            by_cases e : i < k
            · rw [if_pos e] at h1 h2
              exact hok2 i r fv h1 h2
            · rw [if_neg e] at h1 h2
              have e0 : i - k = 0 := by
                have := (List.getElem?_eq_some_iff.1 h1).1
                simp at this
                exact this
              rw [e0] at h1 h2
              simp at h1 h2
              subst h1 h2
              exact hrow2
        have NB2 := Lib.hid NB
        clear NB hok2 hrow2 hmk hown2 hgrow2 hnil2 HO1 HL1 TB2 FP hF2
        generalize w2.setCell ⟨w.heap.size, 0, none⟩ (.slice (some ⟨g2, 0, none⟩) (k + 1) cap2) = w6 at *
        go_wp2_with fail
        go_round
        case measure => simp [intOf]; omega
        case rel => exact ⟨k + 1, _, _, by omega, by go_num, NB2, TC⟩
    · obtain rfl : k = cs.length := by omega
      go_wp2_with fail
      go_ret
      have hmk : (cs.take cs.length).map dlgRow = (dlgNew cs tmo tries).rows := by rw [List.take_length]; rfl
      have HNo := HN.out
      rw [hmk] at HNo
      refine ⟨w.heap.size, L, rfl, Nat.le_refl _, fun b hb => Nat.le_trans (Nat.le_succ _) (World.ownsRow.lt HNo.own b hb).1, ?_, HNo.grew⟩
      have hlen := HNo.len.2
      have hcell := CellsAt.of_own HNo.own
      rw [← hlen] at hcell
      exact dlg_made (n := 0) (g2 := 0) (cap := 0) (base := 0) (E := 0) (vs := vs) HT.out hcell (HNo.len.1.trans hlen.symm) HNo.ok (fun b hb => by
        have h2 := World.ownsRow.lt HNo.own b hb
        exact ⟨h2.2, by omega, fun hx => by have := hX _ hx; omega⟩) (fun hx => absurd (hX _ hx) (Nat.lt_irrefl _)) (by rw [← hlen] at hl; exact Nat.le_trans hl (by decide)) ⟨by show -9223372036854775808 ≤ (0 : Int); decide, by show (0 : Int) ≤ 9223372036854775807; decide⟩ kt kr
-- NEW]
end Go.Proofs.Ytcdmbnbanopioaa
