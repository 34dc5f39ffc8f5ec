/-
  The program's dialogue: New: which commands may be; the list is copied, each command's bytes too.
  The program's dialogue: New.
-/
import Derived.Test.YtcdmbnbanopioaaDpgT
import Derived.Test.YtcdmbnbanopioaaDllC
namespace Go.Proofs.Ytcdmbnbanopioaa
open Go.RowKit
set_option linter.unusedVariables false

/- The program's dialogue: New: which commands may be; the list is copied, each command's bytes too. -/
theorem flatK_length : ∀ (cs : List Cmd) (vs : List Value), vs.length = cs.length → (flatK cs vs).length = cs.length * 4
  | [], [], _ => rfl
  | [], _ :: _, h => by simp at h
  | _ :: _, [], h => by simp at h
  | c :: cs, v :: vs, h => by
    rw [flatK, List.length_append, flatK_length cs vs (by simpa using h), List.length_cons]
    show 4 + _ = _
    omega
theorem flatK_one : ∀ (cs : List Cmd) (vs : List Value), (∀ v ∈ vs, v.oneCell' = true) → ∀ x ∈ flatK cs vs, x.oneCell' = true
  | [], vs, _, x, h => by simp [flatK] at h
  | _ :: _, [], _, x, h => by simp [flatK] at h
  | c :: cs, v :: vs, hs, x, h => by
    rw [flatK] at h
    rcases List.mem_append.1 h with h | h
    · simp [cmdCells] at h
      rcases h with rfl | rfl | rfl | rfl
      · exact hs _ (by simp)
      · rfl
      · rfl
      · rfl
    · exact flatK_one cs vs (fun u hu => hs u (by simp [hu])) x h
theorem CmdsAt.flat {X : Nat → Prop} {w : World} {v : Value} {cs : List Cmd} (h : CmdsAt X w v cs) :
    ∃ vs, vs.length = cs.length ∧ CellsAt w 4 v cs.length (flatK cs vs) ∧ ∀ v ∈ vs, v.oneCell' = true := by
  obtain ⟨A, c, rfl, hc, hr⟩ := h
  rcases Nat.eq_zero_or_pos cs.length with h0 | hp
  · obtain rfl := List.eq_nil_of_length_eq_zero h0
    exact ⟨[], rfl, ⟨rfl, A, c, rfl, hc, fun h => absurd h (Nat.lt_irrefl _)⟩, fun v h => by simp at h⟩
  · obtain ⟨b, o, rfl, hf⟩ := hr hp
    have hall : ∀ i : Fin cs.length, ∃ fv, CmdIn w b (o + i.1 * 4) cs[i.1] fv := fun i => by
      obtain ⟨fv, h1, _⟩ := hf i.1 _ (List.getElem?_eq_getElem i.2)
      exact ⟨fv, h1⟩
    obtain ⟨f, hf⟩ := Classical.axiomOfChoice hall
    have hl : (List.ofFn f).length = cs.length := List.length_ofFn
    have hget : ∀ (i : Nat) (r : Cmd) (fv : Value), cs[i]? = some r → (List.ofFn f)[i]? = some fv → CmdIn w b (o + i * 4) r fv := by
      intro i r fv h1 h2
      obtain ⟨hi, rfl⟩ := List.getElem?_eq_some_iff.1 h1
      obtain ⟨hi2, rfl⟩ := List.getElem?_eq_some_iff.1 h2
      rw [List.getElem_ofFn]
      exact hf ⟨i, hi⟩
    refine ⟨List.ofFn f, hl, ⟨flatK_length _ _ hl, _, c, rfl, hc, fun _ => ⟨b, o, rfl, (hf ⟨0, hp⟩).lt, ?_⟩⟩, ?_⟩
    · intro k x hk
      have hk2 : k < cs.length * 4 := by rw [← flatK_length _ _ hl]; exact (List.getElem?_eq_some_iff.1 hk).1
      have hi : k / 4 < cs.length := by omega
      have hj : k % 4 < 4 := by omega
      have e1 := List.getElem?_eq_getElem hi
      have e2 := List.getElem?_eq_getElem (show k / 4 < (List.ofFn f).length by omega)
      have e := flatK_get cs (List.ofFn f) (k / 4) (k % 4) _ _ e1 e2 hj
      rw [show k / 4 * 4 + k % 4 = k by omega, hk] at e
      have hd := hget _ _ _ e1 e2
      generalize cs[k / 4] = r at *
      generalize (List.ofFn f)[k / 4] = fv at *
      obtain ⟨q, hq⟩ : ∃ q, k / 4 = q := ⟨_, rfl⟩
      obtain ⟨t, ht⟩ : ∃ t, k % 4 = t := ⟨_, rfl⟩
      rw [hq] at hd
      rw [ht] at e hj
      rw [show o + k = o + q * 4 + t by omega]
      match t, hj, e with
      | 0, _, e => simp [cmdCells] at e; subst e; exact hd.c0
      | 1, _, e => simp [cmdCells] at e; subst e; exact hd.c1
      | 2, _, e => simp [cmdCells] at e; subst e; exact hd.c2
      | 3, _, e => simp [cmdCells] at e; subst e; exact hd.c3
    · intro v hv
      obtain ⟨i, hi, rfl⟩ := List.getElem_of_mem hv
      rw [List.getElem_ofFn]
      obtain ⟨A, c, e, _⟩ := (hf ⟨i, by rw [← hl]; exact hi⟩).row
      rw [e]
      rfl
/-- The call's own list of commands, of which the first k have bytes of their own. -/
def OwnCmds (B : Nat) (w : World) (L : Value) (cs : List Cmd) (k : Nat) : Prop :=
  ∃ A cap, L = .slice A cs.length cap ∧ cs.length ≤ cap ∧ (∀ b, L.ownBlock = some b → B ≤ b ∧ b < w.heap.size) ∧ (0 < cs.length → ∃ g1, A = some ⟨g1, 0, none⟩ ∧ g1 < w.heap.size ∧ B ≤ g1 ∧
    ∀ i c, cs[i]? = some c → ∃ v, w.cell? ⟨g1, i * 4, none⟩ = some v ∧ w.cell? ⟨g1, i * 4 + 1, none⟩ = some (.int .u8 (c.wait : Nat)) ∧ w.cell? ⟨g1, i * 4 + 2, none⟩ = some (.int .u8 (c.cls : Nat)) ∧ w.cell? ⟨g1, i * 4 + 3, none⟩ = some (.int .u8 (c.id : Nat)) ∧ w.frozen? ⟨g1, i * 4, none⟩ = false ∧
      (i < k → Row .u8 w v c.b ∧ ∀ b, v.ownBlock = some b → B ≤ b ∧ b < w.heap.size ∧ b ≠ g1))
theorem OwnCmds.grew {B : Nat} {w w' : World} {L : Value} {cs : List Cmd} {k : Nat} (h : OwnCmds B w L cs k) (g : Grew w w') : OwnCmds B w' L cs k := by
  obtain ⟨A, cap, rfl, hc, hb, hr⟩ := h
  refine ⟨A, cap, rfl, hc, fun b e => ⟨(hb b e).1, Nat.lt_of_lt_of_le (hb b e).2 g.size⟩, fun hp => ?_⟩
  obtain ⟨g1, rfl, l1, l2, hf⟩ := hr hp
  refine ⟨g1, rfl, Nat.lt_of_lt_of_le l1 g.size, l2, fun i c hi => ?_⟩
  obtain ⟨v, c0, c1, c2, c3, fz, hk⟩ := hf i c hi
  exact ⟨v, (g.cell (p := ⟨g1, i * 4, none⟩) l1).trans c0, (g.cell (p := ⟨g1, i * 4 + 1, none⟩) l1).trans c1, (g.cell (p := ⟨g1, i * 4 + 2, none⟩) l1).trans c2, (g.cell (p := ⟨g1, i * 4 + 3, none⟩) l1).trans c3, (g.frozen (p := ⟨g1, i * 4, none⟩) l1).trans fz, fun q => ⟨(hk q).1.grew g, fun b e => ⟨((hk q).2 b e).1, Nat.lt_of_lt_of_le ((hk q).2 b e).2.1 g.size, ((hk q).2 b e).2.2⟩⟩⟩
/-- The next one's bytes are laid. -/
theorem OwnCmds.put {B g1 cap : Nat} {w : World} {cs : List Cmd} {k : Nat} (h : OwnCmds B w (.slice (some ⟨g1, 0, none⟩) cs.length cap) cs k) (hk : k < cs.length) {fv : Value} (hr : Row .u8 w fv cs[k].b) (hb : ∀ b, fv.ownBlock = some b → B ≤ b ∧ b < w.heap.size ∧ b ≠ g1) :
    OwnCmds B (w.setCell ⟨g1, k * 4, none⟩ fv) (.slice (some ⟨g1, 0, none⟩) cs.length cap) cs (k + 1) := by
  obtain ⟨A, cap', e, hc, hbb, hrr⟩ := h
  simp only [Value.slice.injEq, true_and] at e
  obtain ⟨rfl, rfl⟩ := e
  have F := Far.one w ⟨g1, k * 4, none⟩ fv
  refine ⟨_, _, rfl, hc, fun b e => ⟨(hbb b e).1, Nat.lt_of_lt_of_le (hbb b e).2 F.size⟩, fun hp => ?_⟩
  obtain ⟨g', e, l1, l2, hf⟩ := hrr hp
  cases e
  refine ⟨g1, rfl, Nat.lt_of_lt_of_le l1 F.size, l2, fun i c hi => ?_⟩
  obtain ⟨v, c0, c1, c2, c3, fz, hk1⟩ := hf i c hi
  have ne : ∀ j, j ≠ k * 4 → (⟨g1, k * 4, none⟩ : Addr) ≠ ⟨g1, j, none⟩ := fun j hj e => hj (by injection e with _ e; exact e.symm)
  have d1 := (World.cell?_setCell_other w _ _ fv (ne (i * 4 + 1) (by omega))).trans c1
  have d2 := (World.cell?_setCell_other w _ _ fv (ne (i * 4 + 2) (by omega))).trans c2
  have d3 := (World.cell?_setCell_other w _ _ fv (ne (i * 4 + 3) (by omega))).trans c3
  have fz' : (w.setCell ⟨g1, k * 4, none⟩ fv).frozen? ⟨g1, i * 4, none⟩ = false := by simpa [go_sem] using fz
  have far : ∀ u : Value, ∀ ns, Row .u8 w u ns → (∀ b, u.ownBlock = some b → B ≤ b ∧ b < w.heap.size ∧ b ≠ g1) → Row .u8 (w.setCell ⟨g1, k * 4, none⟩ fv) u ns ∧ ∀ b, u.ownBlock = some b → B ≤ b ∧ b < (w.setCell ⟨g1, k * 4, none⟩ fv).heap.size ∧ b ≠ g1 := fun u ns h1 h2 =>
    ⟨h1.far F (fun b e q => (h2 b e).2.2 q), fun b e => ⟨(h2 b e).1, Nat.lt_of_lt_of_le (h2 b e).2.1 F.size, (h2 b e).2.2⟩⟩
  by_cases e : i = k
  · subst e
    rw [List.getElem?_eq_getElem hk] at hi
    cases hi
    exact ⟨fv, World.cell?_setCell_same _ _ _ c0, d1, d2, d3, fz', fun _ => far _ _ hr hb⟩
  · exact ⟨v, (World.cell?_setCell_other w _ _ fv (ne (i * 4) (by omega))).trans c0, d1, d2, d3, fz', fun q => far _ _ (hk1 (by omega)).1 (hk1 (by omega)).2⟩
/-- All laid: commands behind the list, in blocks from B on. -/
theorem OwnCmds.cmds {B U : Nat} {w : World} {L : Value} {cs : List Cmd} (h : OwnCmds B w L cs cs.length) (hk : ∀ c ∈ cs, c.wait < 256 ∧ c.cls < 256 ∧ c.id < 256) (hU : w.heap.size ≤ U) : CmdsAt (fun b => B ≤ b ∧ b < U) w L cs ∧ ∀ b, L.ownBlock = some b → B ≤ b ∧ b < U := by
  obtain ⟨A, cap, rfl, hc, hb, hr⟩ := h
  refine ⟨⟨A, cap, rfl, hc, fun hp => ?_⟩, fun b e => ⟨(hb b e).1, Nat.lt_of_lt_of_le (hb b e).2 hU⟩⟩
  obtain ⟨g1, rfl, l1, l2, hf⟩ := hr hp
  refine ⟨g1, 0, rfl, fun i c hi => ?_⟩
  have hl := (List.getElem?_eq_some_iff.1 hi).1
  obtain ⟨v, c0, c1, c2, c3, fz, hk1⟩ := hf i c hi
  obtain ⟨h1, h2⟩ := hk1 hl
  have hkc := hk c (List.mem_of_getElem? hi)
  exact ⟨v, ⟨l1, by rw [Nat.zero_add]; exact c0, by rw [Nat.zero_add]; exact c1, by rw [Nat.zero_add]; exact c2, by rw [Nat.zero_add]; exact c3, h1, hkc.1, hkc.2.1, hkc.2.2⟩, fun _ b e => ⟨(h2 b e).1, Nat.lt_of_lt_of_le (h2 b e).2.1 hU⟩⟩
-- [MAYNOT
set_option maxRecDepth 100000 in
set_option maxHeartbeats 4000000 in
theorem prg_mayNotBe (q : Cmd) (v : Value) (w : World) (hr : Row .u8 w v q.b) (hw : q.wait < 256) (hl : q.b.length ≤ 100000) :
    Calls Try.prog 21 #[.agg #[v, .int .u8 (q.wait : Nat), .int .u8 (q.cls : Nat), .int .u8 (q.id : Nat)]] w fun e w' => e = .returned (.bool (!decide (mayCmd q))) ∧ Grew w w' := by
  obtain ⟨A, c, rfl, hc, _⟩ := hr
  go_enter Try.func21, Try.ntmps21
  go_upto_region 1 with fail
  obtain ⟨V, hV⟩ : ∃ V, w.alloc (.cells #[.slice A q.b.length c, .int .u8 (q.wait : Nat), .int .u8 (q.cls : Nat), .int .u8 (q.id : Nat)] 28) = V := ⟨_, rfl⟩
  have G := Lib.hid (show Grew w V by rw [← hV]; exact (Grew.refl w).alloc _)
  have lp : w.heap.size < V.heap.size := by rw [← hV]; simp
  have v0 : V.cell? ⟨w.heap.size, 0, none⟩ = some (.slice A q.b.length c) := by rw [← hV]; simp [go_sem]
  have v1 : V.cell? ⟨w.heap.size, 1, none⟩ = some (.int .u8 (q.wait : Nat)) := by rw [← hV]; simp [go_sem]
  rw [hV]
  clear hV
  obtain ⟨n, hn⟩ : ∃ n, q.b.length = n := ⟨_, rfl⟩
  obtain ⟨k, hk⟩ : ∃ k, q.wait = k := ⟨_, rfl⟩
  have hm : Hid (decide (mayCmd q) = decide (0 < n ∧ n ≤ 1040 ∧ k < 3)) := Lib.hid (decide_eq_decide.2 (by unfold mayCmd; rw [hn, hk]))
  rw [hn] at v0 hl hc
  rw [hk] at v1 hw
  simp only [hn, hk]
  clear hn hk
  by_cases a1 : 0 < n
  · have n1 : ((n : Int) == 0) = false := by rw [beq_eq_false_iff_ne]; omega
    have n1' : ¬ (n : Int) = 0 := by omega
    by_cases a2 : n ≤ 1040
    · have n2 : decide ((1040 : Int) < n) = false := decide_eq_false (by omega)
      have n2' : ¬ (1040 : Int) < n := by omega
      by_cases a3 : k < 3
      · have hx : Hid (decide (mayCmd q) = true) := Lib.hid (by rw [hm.out]; exact decide_eq_true ⟨a1, a2, a3⟩)
        have n3 : decide ((2 : Int) < k) = false := decide_eq_false (by omega)
        go_wp2_with fail
        go_ret
        exact ⟨by rw [hx.out]; simp, G.out⟩
      · have hx : Hid (decide (mayCmd q) = false) := Lib.hid (by rw [hm.out]; exact decide_eq_false (fun y => a3 y.2.2))
        have n3 : decide ((2 : Int) < k) = true := decide_eq_true (by omega)
        go_wp2_with fail
        go_ret
        exact ⟨by rw [hx.out]; simp, G.out⟩
    · have n2 : decide ((1040 : Int) < n) = true := decide_eq_true (by omega)
      have n2' : (1040 : Int) < n := by omega
      have hx : Hid (decide (mayCmd q) = false) := Lib.hid (by rw [hm.out]; exact decide_eq_false (fun y => a2 y.2.1))
      go_wp2_with fail
      go_ret
      exact ⟨by rw [hx.out]; rfl, G.out⟩
  · obtain rfl : n = 0 := by omega
    have hx : Hid (decide (mayCmd q) = false) := Lib.hid (by rw [hm.out]; exact decide_eq_false (fun y => a1 y.1))
    go_wp2_with fail
    go_ret
    exact ⟨by rw [hx.out]; rfl, G.out⟩
-- MAYNOT]
-- [INDEX
set_option maxRecDepth 100000 in
set_option maxHeartbeats 4000000 in
theorem prg_indexFunc (X : Nat → Prop) (v : Value) (cs : List Cmd) (w : World) (h : CmdsAt X w v cs) (hl : cs.length ≤ 20) (hk : ∀ c ∈ cs, c.wait < 256 ∧ c.b.length ≤ 100000) :
    Calls Try.prog 34 #[v, .func (.func 21) #[] #[]] w fun e w' => (∃ z : Int, e = .returned (.int .i64 z) ∧ decide (0 ≤ z) = !decide (∀ c ∈ cs, mayCmd c)) ∧ Grew w w' := by
  have H := Lib.hid h
  have HK := Lib.hid hk
  obtain ⟨A, c, rfl, hc, _⟩ := h
  clear hk
  go_enter Try.func34, Try.ntmps34
  go_wp2_with fail
  go_loopw [8] (fun i wr => ∃ k : Nat, k ≤ cs.length ∧ i = .int .i64 (k : Nat) ∧ Hid (∀ j r, cs[j]? = some r → j < k → mayCmd r) ∧ Hid (Grew w wr)) (fun i _ => cs.length - (intOf i).toNat)
  case atStart => exact ⟨0, Nat.zero_le _, rfl, Lib.hid (fun j r _ h => absurd h (Nat.not_lt_zero _)), Lib.hid (Grew.refl _)⟩
  case round =>
    obtain ⟨k, hk, rfl, HA, G⟩ := hrel
    by_cases hlt : k < cs.length
    · obtain ⟨b, o, cc, fv, e, _, hd, _⟩ := (H.out.grew G.out).at_ k hlt
      cases e
      have q0 := hd.c0
      have q1 := hd.c1
      have q2 := hd.c2
      have q3 := hd.c3
      have hbw := hd.lt
      have hm := HK.out _ (List.getElem_mem hlt)
      have HMN := Lib.hid (prg_mayNotBe cs[k] fv wr hd.row hm.1 hm.2)
      obtain ⟨A3, c3, rfl, hc3, _⟩ := hd.row
      have hki : (k : Int) < cs.length := by omega
      have hget := Lib.hid (List.getElem?_eq_getElem hlt)
      have hmem := Lib.hid (List.getElem_mem hlt)
      clear hd
      generalize cs[k] = q at *
      by_cases hq : mayCmd q
      · rw [decide_eq_true hq] at HMN
        go_wp2_with (go_at_call 21; refine HMN.out.mono ?_; rintro e w2 ⟨rfl, g2⟩; have G2 := Lib.hid (G.out.trans g2))
        go_round
        case rel => exact ⟨k + 1, by omega, by go_num, Lib.hid (fun j r hj hjk => by
          by_cases e : j = k
          · subst e; rw [hget.out] at hj; cases hj; exact hq
          · exact HA.out j r hj (by omega)), G2⟩
        case measure => simp [intOf]; omega
      · rw [decide_eq_false hq] at HMN
        go_wp2_with (go_at_call 21; refine HMN.out.mono ?_; rintro e w2 ⟨rfl, g2⟩; have G2 := Lib.hid (G.out.trans g2))
        go_ret
        refine ⟨⟨(k : Nat), rfl, ?_⟩, G2.out⟩
        have hno : ¬ ∀ c ∈ cs, mayCmd c := fun y => hq (y q hmem.out)
        rw [decide_eq_false hno, decide_eq_true (by omega)]
        rfl
    · obtain rfl : k = cs.length := by omega
      go_wp2_with fail
      go_ret
      refine ⟨⟨-1, rfl, ?_⟩, G.out⟩
      have hyes : ∀ c ∈ cs, mayCmd c := fun c hc => by
        obtain ⟨i, hi, rfl⟩ := List.getElem_of_mem hc
        exact HA.out i _ (List.getElem?_eq_getElem hi) hi
      rw [decide_eq_true hyes]
      rfl
set_option maxRecDepth 100000 in
set_option maxHeartbeats 4000000 in
theorem prg_containsFunc (X : Nat → Prop) (v : Value) (cs : List Cmd) (w : World) (h : CmdsAt X w v cs) (hl : cs.length ≤ 20) (hk : ∀ c ∈ cs, c.wait < 256 ∧ c.b.length ≤ 100000) :
    Calls Try.prog 20 #[v, .func (.func 21) #[] #[]] w fun e w' => e = .returned (.bool (!decide (∀ c ∈ cs, mayCmd c))) ∧ Grew w w' := by
  have HI := Lib.hid (prg_indexFunc X v cs w h hl hk)
  clear h hk
  generalize decide (∀ c ∈ cs, mayCmd c) = r at *
  go_enter Try.func20, Try.ntmps20
  go_wp2_with (go_at_call 34; refine HI.out.mono ?_; rintro e w2 ⟨⟨z, rfl, hz⟩, g2⟩; have HZ := Lib.hid hz; clear hz)
  go_ret
  exact ⟨by rw [← HZ.out]; rfl, g2⟩
-- INDEX]
/- The program's dialogue: New. -/
-- [CLONEL
set_option maxRecDepth 100000 in
set_option maxHeartbeats 4000000 in
theorem prg_cloneL (X : Nat → Prop) (v : Value) (cs : List Cmd) (w : World) (h : CmdsAt X w v cs) (hl : cs.length ≤ 20) :
    Calls Try.prog 22 #[v] w fun e w' => (∃ L, e = .returned L ∧ OwnCmds w.heap.size w' L cs 0) ∧ Grew w w' := by
  have H := Lib.hid h
  obtain ⟨vs, hvl, hflat, hone⟩ := h.flat
  have HF := Lib.hid hflat
  have HO := Lib.hid (flatK_one cs vs hone)
  have HVL := Lib.hid hvl
  obtain ⟨A, c, rfl, hc, _⟩ := h
  have hq := Lib.run_eql_slice_nil (P := Try.prog) w 22 28 A cs.length c 0 0 Try.underlying22
  clear hvl hflat hone
  cases A with
  | none =>
    have h0 : cs = [] := by
      obtain ⟨A, c', e, _, hr⟩ := H.out
      cases e
      rcases Nat.eq_zero_or_pos cs.length with z | z
      · exact List.eq_nil_of_length_eq_zero z
      · obtain ⟨b, o, e, _⟩ := hr z; cases e
    subst h0
    simp only [List.length_nil, Option.isNone] at hq ⊢
    go_enter Try.func22, Try.ntmps22
    go_wp2_with fail
    go_ret
    exact ⟨⟨_, rfl, none, 0, rfl, Nat.le_refl _, fun b e => (by simp [Value.ownBlock] at e), fun e => absurd e (by simp)⟩, Grew.refl _⟩
  | some a =>
    have gE := (Grew.refl w).alloc (.cells #[] 28)
    have hO : (w.alloc (.cells #[] 28)).ownsRow w.heap.size 28 4 (.slice (some ⟨w.heap.size, 0, none⟩) 0 0) 0 [] := ⟨rfl, .inr ⟨_, 0, #[], rfl, Nat.le_refl _, heap_alloc_new w _, Nat.le_refl _, Nat.zero_le _, rfl, rfl⟩⟩
    have HO1 := Lib.hid hO
    have HF1 := Lib.hid (HF.out.far (F := fun _ => False) (Far.of_grew gE) (fun _ _ h => h))
    have GE := Lib.hid gE
    clear gE hO
    go_enter Try.func22, Try.ntmps22
    go_wp2_with (refine wpList_joinC _ rfl _ _ 22 rfl w.heap.size 28 _ 4 32 rfl infoCmd rfl (by decide) (.slice (some ⟨w.heap.size, 0, none⟩) 0 0) 0 [] rfl HO1.out (.slice (some a) cs.length c) cs.length (flatK cs vs) rfl HF1.out HO.out (by unfold maxLen; omega) (by omega) (by simp) ?_; intro v2 w2 hown2 hgrow2 hnil2)
    go_wp2_with fail
    go_ret
    rw [List.nil_append, Nat.zero_add] at hown2
    have gA : Grew w w2 := Below.grown GE.out hgrow2 GE.out.size (fun b hb => by simp [Value.ownBlock] at hb; omega)
    refine ⟨⟨v2, rfl, ?_⟩, gA⟩
    have hlt := fun b hb => World.ownsRow.lt hown2 b hb
    obtain ⟨_, ⟨e, _⟩ | ⟨g, cap, cur, e, hb, hh, hn, hm, hcur, ht⟩⟩ := id hown2
    · have := (hnil2.1 e).1
      cases this
    · subst e
      refine ⟨_, cap, rfl, hn, fun b e => hlt b e, fun hp => ⟨g, rfl, (hlt g rfl).2, hb, fun i c hi => ?_⟩⟩
      have hic := (List.getElem?_eq_some_iff.1 hi).1
      have hiv : i < vs.length := by rw [HVL.out]; exact hic
      have e2 := List.getElem?_eq_getElem hiv
      obtain ⟨_, A', c', e3, hc3, hr⟩ := CellsAt.of_own hown2
      cases e3
      obtain ⟨b0, o0, e4, hlt4, hcell⟩ := hr hp
      cases e4
      have hg : ∀ j x, j < 4 → (cmdCells c vs[i])[j]? = some x → w2.cell? ⟨g, i * 4 + j, none⟩ = some x := fun j x hj hx => by
        have := hcell (i * 4 + j) x ((flatK_get cs vs i j c _ hi e2 hj).trans hx)
        rwa [Nat.zero_add] at this
      exact ⟨vs[i], hg 0 _ (by omega) rfl, hg 1 _ (by omega) rfl, hg 2 _ (by omega) rfl, hg 3 _ (by omega) rfl, World.ownsRow.frozenAt hown2 (i * 4), fun q => absurd q (Nat.not_lt_zero _)⟩
-- CLONEL]
-- [NEW
set_option maxRecDepth 100000 in
set_option maxHeartbeats 8000000 in
theorem prg_New (X : Nat → Prop) (v : Value) (cs : List Cmd) (tmo tries : Int) (w : World) (h : CmdsAt X w v cs) (hX : ∀ b, X b → b < w.heap.size) (hl : cs.length ≤ 20) (hk : ∀ c ∈ cs, c.wait < 256 ∧ c.cls < 256 ∧ c.id < 256 ∧ Bytes c.b ∧ c.b.length ≤ 1100) (ht : -9223372036854775808 ≤ tmo ∧ tmo ≤ 9223372036854775807) (hr : -9223372036854775808 ≤ tries ∧ tries ≤ 9223372036854775807) :
    Calls Try.prog 7 #[v, .int .i64 tmo, .int .i64 tries] w fun e w' => Grew w w' ∧ (mayDlg cs tmo tries → ∃ p F K, e = .returned (.tuple #[.pointer (some p), .int .i64 0]) ∧ PrgR K w' (.pointer (some p)) F (dlgNew cs tmo tries.toNat) ∧ ∀ b, F b ∨ K b → w.heap.size ≤ b) ∧ (¬ mayDlg cs tmo tries → e = .returned (.tuple #[.pointer none, .int .i64 2])) := by
  have H := Lib.hid h
  have HK := Lib.hid hk
  have HCF := Lib.hid (prg_containsFunc X v cs w h hl (fun c hc => ⟨(hk c hc).1, by have := (hk c hc).2.2.2.2; omega⟩))
  have HCL := fun w' (G : Grew w w') => Lib.hid (prg_cloneL X v cs w' (h.grew G) hl)
  obtain ⟨A, c, rfl, hc, _⟩ := h
  have e6 : ∀ {w : World}, True := trivial
  by_cases hlen : cs.length ≤ 16
  · have n16 : ¬ (16 : Int) < cs.length := by omega
    by_cases hall : ∀ c ∈ cs, mayCmd c
    · rw [decide_eq_true hall] at HCF
      by_cases h1 : 100000000 ≤ tmo
      · have m1 : ¬ tmo < 100000000 := by omega
        by_cases h2 : tmo ≤ 10000000000
        · have m2 : ¬ (10000000000 : Int) < tmo := by omega
          by_cases h3 : 1 ≤ tries
          · have m3 : ¬ tries < 1 := by omega
            by_cases h4 : tries ≤ 8
            · have m4 : ¬ (8 : Int) < tries := by omega
              have hmay : mayDlg cs tmo tries := ⟨hall, hlen, h1, h2, h3, h4⟩
              have HALL := Lib.hid hall
              have HMAY := Lib.hid hmay
              clear hk hX hall hmay
              go_enter Try.func7, Try.ntmps7
              go_upto_region 5 with (go_at_call 20; refine HCF.out.mono ?_; rintro e w1 ⟨rfl, g1⟩; have G1 := Lib.hid g1)
              go_upto_region 6 with (go_at_call 22; refine (HCL _ G1.out).out.mono ?_; rintro e w2 ⟨⟨L, rfl, hL⟩, g2⟩; have G2 := Lib.hid (G1.out.trans g2); have HL := Lib.hid hL)
              have hc2 := HL.out
              obtain ⟨A2, cap, rfl, hcap, _⟩ := hc2
              have HPOS := Lib.hid (fun c hc => (HALL.out c hc).1)
              clear HCF HCL
              go_wp2_with fail
              go_loopw [36] (fun i wr => ∃ k : Nat, k ≤ cs.length ∧ i = .int .i64 (k : Nat) ∧ Hid (OwnCmds w1.heap.size wr (.slice A2 cs.length cap) cs k) ∧ Hid (Grew w wr)) (fun i _ => cs.length - (intOf i).toNat)
              case atStart => exact ⟨0, Nat.zero_le _, rfl, HL, G2⟩
              case round =>
                obtain ⟨k, hkk, rfl, HO, G⟩ := hrel
                by_cases hlt : k < cs.length
                · obtain ⟨b, o, cc, fv, e, _, hd, _⟩ := (H.out.grew G.out).at_ k hlt
                  cases e
                  have q0 := hd.c0
                  have q1 := hd.c1
                  have q2 := hd.c2
                  have q3 := hd.c3
                  have hbw := hd.lt
                  have hpos := HPOS.out _ (List.getElem_mem hlt)
                  have hlen2 := (HK.out _ (List.getElem_mem hlt)).2.2.2.2
                  have HRW := Lib.hid hd.row
                  obtain ⟨A3, c3, rfl, hc3, _⟩ := hd.row
                  obtain ⟨A', cap', e, _, _, hrr⟩ := HO.out
                  cases e
                  obtain ⟨g1, rfl, lg1, lB, hff⟩ := hrr (by omega)
                  have hki : (k : Int) < cs.length := by omega
                  have HQ := Lib.hid (show ∃ q, q = cs[k] from ⟨_, rfl⟩)
                  clear hd hff hrr
                  go_upto_region 9 with fail
                  obtain ⟨V, hV⟩ : ∃ V, wr.alloc (.cells #[.slice A3 cs[k].b.length c3, .int .u8 (cs[k].wait : Nat), .int .u8 (cs[k].cls : Nat), .int .u8 (cs[k].id : Nat)] 28) = V := ⟨_, rfl⟩
                  have v0 : V.cell? ⟨wr.heap.size, 0, none⟩ = some (.slice A3 cs[k].b.length c3) := by rw [← hV]; simp [go_sem]
                  have lv : wr.heap.size < V.heap.size := by rw [← hV]; simp
                  have gV : Grew wr V := by rw [← hV]; exact (Grew.refl wr).alloc _
                  rw [hV]
                  clear hV
                  have GV := Lib.hid gV
                  have HCB := Lib.hid (prg_clone V (.slice A3 cs[k].b.length c3) cs[k].b (HRW.out.grew gV) hpos (by omega))
                  clear q0 q1 q2 q3 gV
                  go_wp2_with (go_at_call 23; refine HCB.out.mono ?_; rintro e w5 ⟨f5, rfl, ho5, g5⟩; have HO5 := Lib.hid ho5; obtain ⟨fg, fc, rfl, hfg, hlt5⟩ := ho5.form hpos; have G5 := Lib.hid (GV.out.trans g5); have HOC := Lib.hid (HO.out.grew G5.out); obtain ⟨A', cap', e, _, _, hrr⟩ := HOC.out; cases e; obtain ⟨g', e, lg5, _, hff⟩ := hrr (by omega); cases e; obtain ⟨v5, z0, _, _, _, z4, _⟩ := hff k _ (List.getElem?_eq_getElem hlt); clear hff hrr ho5)
                  go_round
                  case rel =>
                    refine ⟨k + 1, by omega, by go_num, Lib.hid (HOC.out.put hlt HO5.out.row (fun b e => ?_)), Lib.hid ((G.out.trans G5.out).setCell (p := ⟨g1, k * 4, none⟩) (by show w.heap.size ≤ g1; have := G1.out.size; omega) _)⟩
                    have := HO5.out.lt b e
                    omega
                  case measure => simp [intOf]; omega
                · obtain rfl : k = cs.length := by omega
                  obtain ⟨hcm, hown⟩ := HO.out.cmds (U := wr.heap.size) (fun c hc => ⟨(HK.out c hc).1, (HK.out c hc).2.1, (HK.out c hc).2.2.1⟩) (Nat.le_refl _)
                  have HCM := Lib.hid hcm
                  have HOW := Lib.hid hown
                  have htr : ((tries.toNat : Nat) : Int) = tries := by omega
                  clear hcm hown HL HO
                  go_wp2_with fail
                  obtain ⟨V, hV, gV, TV⟩ := seven_new wr (.int .i64 tmo) (.int .i64 tries) (.slice A2 cs.length cap) (.pointer none) (.int .i64 0) (.int .i64 0) (.int .i64 (-9223372036854775808)) 54
                  rw [hV]
                  clear hV
                  refine bodyPost_ret (by simp [results, Try.results7, go_sem]; try rfl) rfl ?_
                  have hw1 := G1.out.size
                  have hw2 := G.out.size
                  have hmap : (cs.map dlgRow).map DRow.c = cs := by
                    rw [List.map_map]
                    exact List.map_id cs
                  refine ⟨G.out.trans gV, fun _ => ⟨⟨wr.heap.size, 0, none⟩, ownSet wr.heap.size none, fun b => w1.heap.size ≤ b ∧ b < wr.heap.size, rfl, ⟨wr.heap.size, .slice A2 cs.length cap, none, [], cs.map dlgRow, rfl, fun b => Iff.rfl, ⟨rfl, fun r e => (by simp at e), fun r e => (by cases e), fresh_rows cs⟩, ?_⟩, fun b q => ?_⟩, fun y => absurd HMAY.out y⟩
                  · show PrgAt _ V _ _ none ((cs.map dlgRow).map DRow.c) 0 0 (-9223372036854775808) tmo tries.toNat
                    rw [hmap]
                    exact ⟨TV.lt, TV.c0, by rw [htr]; exact TV.c1, TV.c2, TV.c3, TV.c4, TV.c5, TV.c6, TV.f2, TV.f3, TV.f4, TV.f5, TV.f6, HCM.out.grew gV, HOW.out, by omega, HALL.out, fun x r e => (by cases e), fun e => Nat.lt_irrefl _ e.2, fun b hb => Nat.lt_of_lt_of_le hb.2 gV.size, ⟨by decide, by decide⟩, ⟨by decide, by decide⟩, ⟨h1, h2⟩, ⟨by omega, by omega⟩⟩
                  · rcases q with q | q
                    · have := ownSet_none b q; omega
                    · have := q.1; omega
            · have m4 : (8 : Int) < tries := by omega
              have HNO : Hid (¬ mayDlg cs tmo tries) := Lib.hid (fun y => h4 y.2.2.2.2.2)
              clear hk hX
              go_enter Try.func7, Try.ntmps7
              go_wp2_with (go_at_call 20; refine HCF.out.mono ?_; rintro e w1 ⟨rfl, g1⟩; have G1 := Lib.hid g1)
              refine bodyPost_ret (by simp [results, Try.results7, go_sem]; try rfl) rfl ?_
              exact ⟨G1.out, fun y => absurd y HNO.out, fun _ => rfl⟩
          · have m3 : tries < 1 := by omega
            have HNO : Hid (¬ mayDlg cs tmo tries) := Lib.hid (fun y => h3 y.2.2.2.2.1)
            clear hk hX
            go_enter Try.func7, Try.ntmps7
            go_wp2_with (go_at_call 20; refine HCF.out.mono ?_; rintro e w1 ⟨rfl, g1⟩; have G1 := Lib.hid g1)
            refine bodyPost_ret (by simp [results, Try.results7, go_sem]; try rfl) rfl ?_
            exact ⟨G1.out, fun y => absurd y HNO.out, fun _ => rfl⟩
        · have m2 : (10000000000 : Int) < tmo := by omega
          have HNO : Hid (¬ mayDlg cs tmo tries) := Lib.hid (fun y => h2 y.2.2.2.1)
          clear hk hX
          go_enter Try.func7, Try.ntmps7
          go_wp2_with (go_at_call 20; refine HCF.out.mono ?_; rintro e w1 ⟨rfl, g1⟩; have G1 := Lib.hid g1)
          refine bodyPost_ret (by simp [results, Try.results7, go_sem]; try rfl) rfl ?_
          exact ⟨G1.out, fun y => absurd y HNO.out, fun _ => rfl⟩
      · have m1 : tmo < 100000000 := by omega
        have HNO : Hid (¬ mayDlg cs tmo tries) := Lib.hid (fun y => h1 y.2.2.1)
        clear hk hX
        go_enter Try.func7, Try.ntmps7
        go_wp2_with (go_at_call 20; refine HCF.out.mono ?_; rintro e w1 ⟨rfl, g1⟩; have G1 := Lib.hid g1)
        refine bodyPost_ret (by simp [results, Try.results7, go_sem]; try rfl) rfl ?_
        exact ⟨G1.out, fun y => absurd y HNO.out, fun _ => rfl⟩
    · rw [decide_eq_false hall] at HCF
      have HNO : Hid (¬ mayDlg cs tmo tries) := Lib.hid (fun y => hall y.1)
      clear hk hX
      go_enter Try.func7, Try.ntmps7
      go_wp2_with (go_at_call 20; refine HCF.out.mono ?_; rintro e w1 ⟨rfl, g1⟩; have G1 := Lib.hid g1)
      refine bodyPost_ret (by simp [results, Try.results7, go_sem]; try rfl) rfl ?_
      exact ⟨G1.out, fun y => absurd y HNO.out, fun _ => rfl⟩
  · have n16 : (16 : Int) < cs.length := by omega
    have HNO : Hid (¬ mayDlg cs tmo tries) := Lib.hid (fun y => hlen y.2.1)
    clear hk hX
    go_enter Try.func7, Try.ntmps7
    go_wp2_with fail
    refine bodyPost_ret (by simp [results, Try.results7, go_sem]; try rfl) rfl ?_
    exact ⟨Grew.refl _, fun y => absurd y HNO.out, fun _ => rfl⟩
-- NEW]
end Go.Proofs.Ytcdmbnbanopioaa
