/-
  The laws of pairings: no edge is in two pairs, each is within the window.
-/
import Derived.Test.YtkijonnbngnliaaPalA
import Derived.Test.YtkijonnbngnliaaPalK
import Derived.Deep.RegionHeld3
namespace Go.Proofs.Ytkijonnbngnliaa
open Go.RowKit
set_option linter.unusedVariables false

/-- What the law keeps beside the pairing: the last pair's edge, the last edge, the counter that came, the one that the message that waits came at. -/
structure OnceOk (g : Pg) (last edge came next : Int) : Prop where
  fcame : came = g.latest
  fedge : (g.L = [] ∧ edge = -1) ∨ (g.L ≠ [] ∧ edge = lastE g.L)
  flast : -1 ≤ last ∧ last ≤ edge
  ffree : g.taken = false → g.L ≠ [] → last < edge
  fnext : ∀ q, g.waits = some q → next = q.1 ∧ q.2.next = true
theorem OnceOk.new (win : Int) : OnceOk (pgNew win) (-1) (-1) 0 0 := ⟨rfl, .inl ⟨rfl, rfl⟩, by omega, fun _ h => absurd rfl h, fun q e => by cases e⟩
theorem pushE_ne (L : List Int) (c : Int) : pushE L c ≠ [] := by
  unfold pushE
  split <;> simp
/-- An edge comes behind all. -/
theorem OnceOk.edge_none {g : Pg} {last edge came next c : Int} (h : OnceOk g last edge came next) (hk : PgOk g) (h1 : ¬ c < came) (h2 : ¬ c ≤ edge) (h3 : g.edgeP c = none) : OnceOk (g.edge c) last c c next := by
  have h4 : ¬ c < g.latest := by rw [← h.fcame]; exact h1
  unfold Pg.edge
  rw [if_neg h4]
  have h5 := h.flast
  exact ⟨rfl, .inr ⟨pushE_ne _ _, (lastE_push _ _).symm⟩, by omega, fun _ _ => by omega, fun q e => by cases e⟩
theorem OnceOk.edge_some {g : Pg} {last edge came next c : Int} {P : Pd} (h : OnceOk g last edge came next) (hk : PgOk g) (h1 : ¬ c < came) (h2 : ¬ c ≤ edge) (h3 : g.edgeP c = some P) : OnceOk (g.edge c) c c c next ∧ P.edge = c ∧ P.msg.next = true ∧ c - next ≤ g.win ∧ last < c ∧ 0 ≤ next ∧ next ≤ c := by
  have h4 : ¬ c < g.latest := by rw [← h.fcame]; exact h1
  have h5 := h.flast
  have h6 := hk.kl
  unfold Pg.edgeP at h3
  rw [if_neg h4] at h3
  unfold Pg.edge
  rw [if_neg h4]
  unfold Pg.meets at h3
  cases hw : g.waits with
  | none => rw [hw] at h3; simp at h3
  | some q =>
    rw [hw] at h3
    simp only at h3
    split at h3
    · rename_i hq
      have hq' := of_decide_eq_true hq
      have h7 := h.fnext q hw
      have h8 := hk.kq q hw
      simp only [Option.map_some, Option.some.injEq] at h3
      subst h3
      refine ⟨⟨rfl, .inr ⟨pushE_ne _ _, (lastE_push _ _).symm⟩, by omega, fun e _ => ?_, fun q e => (by cases e)⟩, rfl, h7.2, by omega, by omega, by omega, by omega⟩
      have : g.meets c = true := by unfold Pg.meets; rw [hw]; exact hq
      rw [show (g.edged c).taken = g.meets c from rfl, this] at e
      cases e
    · cases h3
theorem OnceOk.msg_next {g : Pg} {last edge came next m : Int} {x : Ms} (h : OnceOk g last edge came next) (h1 : ¬ m < came) (hx : x.next = true) : OnceOk (g.msg m x) last edge m m ∧ g.msgP m x = none := by
  have h4 : ¬ m < g.latest := by rw [← h.fcame]; exact h1
  unfold Pg.msg Pg.msgP
  rw [if_neg h4, if_neg h4, if_pos hx, if_pos hx]
  exact ⟨⟨rfl, h.fedge, h.flast, h.ffree, fun q e => by cases e; exact ⟨rfl, hx⟩⟩, rfl⟩
theorem OnceOk.msg_none {g : Pg} {last edge came next m : Int} {x : Ms} (h : OnceOk g last edge came next) (h1 : ¬ m < came) (hx : x.next = false) (h3 : g.msgP m x = none) : OnceOk (g.msg m x) last edge m next := by
  have h4 : ¬ m < g.latest := by rw [← h.fcame]; exact h1
  have hx' : ¬ x.next = true := by rw [hx]; decide
  unfold Pg.msgP at h3
  rw [if_neg h4, if_neg hx'] at h3
  unfold Pg.msg
  rw [if_neg h4, if_neg hx']
  have hf : g.free m = false := by
    cases q : g.free m with
    | false => rfl
    | true => rw [q] at h3; simp at h3
  rw [hf, Bool.or_false]
  exact ⟨rfl, h.fedge, h.flast, h.ffree, h.fnext⟩
theorem OnceOk.msg_some {g : Pg} {last edge came next m : Int} {x : Ms} {P : Pd} (h : OnceOk g last edge came next) (hk : PgOk g) (h1 : ¬ m < came) (hx : x.next = false) (h3 : g.msgP m x = some P) : OnceOk (g.msg m x) edge edge m next ∧ P.edge = edge ∧ P.msg = x ∧ m - edge ≤ g.win ∧ last < edge ∧ 0 ≤ edge ∧ edge ≤ m := by
  have h4 : ¬ m < g.latest := by rw [← h.fcame]; exact h1
  have hx' : ¬ x.next = true := by rw [hx]; decide
  have h6 := hk.kl
  have h7 := hk.last
  have h8 := h.flast
  unfold Pg.msgP at h3
  rw [if_neg h4, if_neg hx'] at h3
  unfold Pg.msg
  rw [if_neg h4, if_neg hx']
  cases hf : g.free m with
  | false => rw [hf] at h3; simp at h3
  | true =>
    rw [hf, if_pos rfl] at h3
    simp only [Option.some.injEq] at h3
    subst h3
    have hne : g.L ≠ [] := fun e => by rw [PgOk.no_edge e] at hf; cases hf
    have he : edge = lastE g.L := by
      rcases h.fedge with q | q
      · exact absurd q.1 hne
      · exact q.2
    have hfar : m - lastE g.L ≤ g.win := by
      by_cases q : m - lastE g.L > g.win
      · rw [hk.far_edge m q] at hf; cases hf
      · omega
    have ht : g.taken = false := by
      unfold Pg.free at hf
      cases q : g.taken with
      | false => rfl
      | true => rw [q] at hf; simp at hf
    rw [Bool.or_true]
    have hlt := h.ffree ht hne
    exact ⟨⟨rfl, h.fedge, by omega, fun e => (by cases e), h.fnext⟩, he.symm, rfl, by omega, hlt, by omega, by omega⟩
theorem At.put7 {w : World} {r : Nat} {a0 a1 a2 a3 a4 a5 a6 : Value} (h : At w r [a0, a1, a2, a3, a4, a5, a6]) (b0 b1 b2 b3 b4 b5 b6 : Value) :
    At (((((((w.setCell ⟨r, 0, none⟩ b0).setCell ⟨r, 1, none⟩ b1).setCell ⟨r, 2, none⟩ b2).setCell ⟨r, 3, none⟩ b3).setCell ⟨r, 4, none⟩ b4).setCell ⟨r, 5, none⟩ b5).setCell ⟨r, 6, none⟩ b6) r [b0, b1, b2, b3, b4, b5, b6] ∧ Far (fun b => b = r) w (((((((w.setCell ⟨r, 0, none⟩ b0).setCell ⟨r, 1, none⟩ b1).setCell ⟨r, 2, none⟩ b2).setCell ⟨r, 3, none⟩ b3).setCell ⟨r, 4, none⟩ b4).setCell ⟨r, 5, none⟩ b5).setCell ⟨r, 6, none⟩ b6) := by
  refine ⟨((((((h.set 0 b0 (by simp)).set 1 b1 (by simp)).set 2 b2 (by simp)).set 3 b3 (by simp)).set 4 b4 (by simp)).set 5 b5 (by simp)).set 6 b6 (by simp), ?_⟩
  repeat (first | (with_reducible exact Far.refl _ _) | (with_reducible refine Far.setCell (F := fun b => b = r) ?_ (p := ⟨r, _, none⟩) rfl _))
-- [ONCE
set_option maxRecDepth 100000 in
set_option maxHeartbeats 8000000 in
theorem law_PairOnce (win : Int) (v : Value) (l : List Po) (w : World) (h : PosAt w v l) (hk : PosOk l) (hw : -9223372036854775808 ≤ win ∧ win ≤ 9223372036854775807) :
    Calls Try.prog 4 #[.int .i64 win, v] w fun e w' => e = .returned (.bool true) ∧ Grew w w' := by
  have HK := fun w' => Lib.hid (law_known17 w')
  obtain ⟨A, cp, rfl, hcp⟩ := h.form
  have HH := Lib.hid h
  have HOK := Lib.hid hk
  clear h hk
  by_cases hwin : win < 100000000 ∨ 900000000 < win
  · have HN := Lib.hid (pai_New_no w win hwin)
    clear hwin
    by_cases h60 : (60 : Int) < l.length
    · go_enter Try.func4, Try.ntmps4
      go_wp2_with (first
        | (go_at_call 5; refine (HK _).out.mono ?_; rintro e w2 ⟨rfl, g2⟩)
        | (go_at_call 6; refine HN.out.mono ?_; rintro y w1 ⟨rfl, hw1⟩; subst hw1))
      go_ret
      exact ⟨rfl, g2⟩
    · go_enter Try.func4, Try.ntmps4
      go_wp2_with (first
        | (go_at_call 5; refine (HK _).out.mono ?_; rintro e w2 ⟨rfl, g2⟩)
        | (go_at_call 6; refine HN.out.mono ?_; rintro y w1 ⟨rfl, hw1⟩; subst hw1))
      go_ret
      exact ⟨rfl, g2⟩
  · have hkw : 100000000 ≤ win ∧ win ≤ 900000000 := by omega
    have HN := Lib.hid (pai_New w win hkw)
    have HKW := Lib.hid hkw
    clear hkw hwin
    by_cases h60 : (60 : Int) < l.length
    · go_enter Try.func4, Try.ntmps4
      go_wp2_with (first
        | (go_at_call 5; refine (HK _).out.mono ?_; rintro e w2 ⟨rfl, g2⟩)
        | (go_at_call 6; refine HN.out.mono ?_; rintro y w1 ⟨p, q, e, rfl, h1, sz1, g1⟩))
      go_ret
      exact ⟨rfl, g1.trans g2⟩
    · go_enter Try.func4, Try.ntmps4
      go_upto_region 6 with (go_at_call 6; refine HN.out.mono ?_; rintro y w1 ⟨p, q, e, rfl, h1, sz1, g1⟩; replace h1 := Lib.hid h1; replace g1 := Lib.hid g1; replace sz1 := Lib.hid sz1)
      go_wp2_with fail
      go_loopw [7, 8, 9, 10, 35] (fun a b c d i wr => ∃ (k hb : Nat) (g : Pg) (last edge came next : Int), k ≤ l.length ∧ a = .int .i64 last ∧ b = .int .i64 edge ∧ c = .int .i64 came ∧ d = .int .i64 next ∧ i = .int .i64 (k : Nat) ∧ Hid (PaiAt wr p q e hb g ∧ OnceOk g last edge came next ∧ g.win = win ∧ Grew w wr)) (fun _ _ _ _ i _ => l.length - (intOf i).toNat)
      case atStart => exact ⟨0, p, pgNew win, -1, -1, 0, 0, Nat.zero_le _, rfl, rfl, rfl, rfl, rfl, Lib.hid ⟨h1.out, OnceOk.new win, rfl, g1.out⟩⟩
      case round =>
        clear h1 g1
        obtain ⟨k, hb, g, last, edge, came, next, hk, rfl, rfl, rfl, rfl, rfl, HE⟩ := hrel
        by_cases hlt : k < l.length
        · obtain ⟨HBo, HOn, HWi, HGr⟩ := HE.out
          obtain ⟨b, o, rfl, hbk, hcell⟩ := HH.out.at_ HGr hlt
          have hbo := HOK.out k
          have c0 := hcell 0 _ rfl
          have c1 := hcell 1 _ rfl
          have c2 := hcell 2 _ rfl
          have c3 := hcell 3 _ rfl
          have c4 := hcell 4 _ rfl
          have c5 := hcell 5 _ rfl
          have c6 := hcell 6 _ rfl
          have c7 := hcell 7 _ rfl
          have c8 := hcell 8 _ rfl
          rw [Nat.add_zero] at c0
          have hki : (k : Int) < l.length := by omega
          have e1 : IntKind.i64.wrap ((k : Int) + 1) = ((k + 1 : Nat) : Int) := by rw [IntWalk.i64_in _ (by omega)]; omega
          generalize po l k = x at *
          obtain ⟨xe, xc, xa, ⟨xk, xu, xs, xl, xy, xn⟩⟩ := x
          simp only at c0 c1 c2 c3 c4 c5 c6 c7 c8 hbo
          clear hcell HE
          go_upto_region 9 with fail
          generalize hV : wr.alloc _ = V
          have gV : Grew wr V := by rw [← hV]; exact (Grew.refl wr).alloc _
          have HX : Hid (At V wr.heap.size (poC ⟨xe, xc, xa, ⟨xk, xu, xs, xl, xy, xn⟩⟩)) := Lib.hid (by rw [← hV]; exact At.new wr _ _)
          have HP : Hid (PaiAt V p q e hb g) := Lib.hid (HBo.grew gV)
          have HGV : Hid (Grew w V) := Lib.hid (HGr.trans gV)
          have hnq : wr.heap.size ≠ q := by have := HBo.pag.at_.lt; omega
          have hne : wr.heap.size ≠ e := by have := HBo.pag.log.lt; omega
          have HKG := Lib.hid HBo.pag.ok
          have HGN : Hid (p < wr.heap.size ∧ w.heap.size ≤ wr.heap.size) := Lib.hid ⟨HBo.top.lt, HGr.size⟩
          have HON := Lib.hid HOn
          have HWI := Lib.hid HWi
          have f0 := HX.out.cell 0 _ rfl
          have f1 := HX.out.cell 1 _ rfl
          have f2 := HX.out.cell 2 _ rfl
          have ltn := HX.out.lt
          have HF := Lib.hid (And.intro HP.out (And.intro HON.out (And.intro HWI.out HGV.out)))
          clear hV gV HBo HOn HWi HGr c0 c1 c2 c3 c4 c5 c6 c7 c8
          generalize wr.heap.size = n at *
          cases xc with
          | true =>
            go_wp2_with fail
            go_round
            case rel => exact ⟨k + 1, hb, g, last, edge, came, next, by omega, rfl, rfl, rfl, rfl, by first | rfl | go_num, HF⟩
            case measure => simp [intOf]; omega
          | false =>
            by_cases hc1 : xa < came
            · go_wp2_with fail
              go_round
              case rel => exact ⟨k + 1, hb, g, last, edge, came, next, by omega, rfl, rfl, rfl, rfl, by first | rfl | go_num, HF⟩
              case measure => simp [intOf]; omega
            · cases xe with
              | true =>
                by_cases hc2 : xa ≤ edge
                · go_wp2_with fail
                  go_round
                  case rel => exact ⟨k + 1, hb, g, last, edge, came, next, by omega, rfl, rfl, rfl, rfl, by first | rfl | go_num, HF⟩
                  case measure => simp [intOf]; omega
                · have hc1' := Lib.hid hc1
                  have hc2' := Lib.hid hc2
                  go_upto_region 15 with fail
                  have hgn : Hid (p < n ∧ w.heap.size ≤ n) := HGN
                  cases hs : g.edgeP xa with
                  | none =>
                    have HE1 : ∀ w', PaiAt w' p q e hb g → Hid (Calls Try.prog 8 #[.pointer (some ⟨p, 0, none⟩), .int .i64 xa] w' fun y w'' => y = .returned (.tuple #[.agg #[.int .i64 0, .int .u8 0, .bool false, .int .i64 0, .bool false, .int .i64 0, .bool false], .bool false]) ∧ (∃ hb', PaiAt w'' p q e hb' (g.edge xa) ∧ (hb' = hb ∨ w'.heap.size ≤ hb')) ∧ Far (fun b => b = q ∨ b = e) w' w'') := fun w' hq => Lib.hid (by
                      have := pai_Edge w' p q e hb g xa hq hbo.2
                      rw [hs] at this
                      exact this.mono fun _ _ ⟨a, b, c⟩ => ⟨a, ⟨_, b, .inl rfl⟩, c⟩)
                    have HFin : Hid (OnceOk (g.edge xa) last xa xa next ∧ (g.edge xa).win = win) := Lib.hid ⟨HON.out.edge_none HKG.out hc1'.out hc2'.out hs, by rw [win_edge]; exact HWI.out⟩
                    generalize (g.edge xa) = g2 at *
                    generalize hV2 : V.alloc _ = V2
                    have g2v : Grew V V2 := by rw [← hV2]; exact (Grew.refl V).alloc _
                    have R2 : Hid (At V2 V.heap.size noPdC) := Lib.hid (by rw [← hV2]; exact At.new V noPdC _)
                    have HP2 := Lib.hid (HP.out.grew g2v)
                    have HX2 := Lib.hid (HX.out.grew g2v)
                    have HG2 := Lib.hid (HGV.out.trans g2v)
                    have hmq : V.heap.size ≠ q := by have := HP.out.pag.at_.lt; omega
                    have hme : V.heap.size ≠ e := by have := HP.out.pag.log.lt; omega
                    have hmn : n ≠ V.heap.size := by omega
                    have hgv := Lib.hid (And.intro HP.out.top.lt (And.intro HGV.out.size HP.out.pag.hl))
                    have hsv : Hid (V2.heap.size = V.heap.size + 1) := Lib.hid (by rw [← hV2]; simp)
                    have hqw : w.heap.size ≤ q ∧ w.heap.size ≤ e := by have := sz1.out; omega
                    have k2 := HX2.out.cell 2 _ rfl
                    have k3 := HX2.out.cell 3 _ rfl
                    have k4 := HX2.out.cell 4 _ rfl
                    have k5 := HX2.out.cell 5 _ rfl
                    have k6 := HX2.out.cell 6 _ rfl
                    have k7 := HX2.out.cell 7 _ rfl
                    have k8 := HX2.out.cell 8 _ rfl
                    have k0 := HX2.out.cell 0 _ rfl
                    have ltn2 := HX2.out.lt
                    clear hV2 g2v f0 f1 f2 ltn HF HX HP HGV
                    generalize V.heap.size = n2 at *
                    go_upto_region 16 with (go_at_call 8; refine (HE1 _ HP2.out).out.mono ?_; rintro y w3 ⟨rfl, ⟨hb', h3, hbb⟩, f3⟩; replace hbb := Lib.hid hbb; have R3 := R2.out.far f3 (by omega); replace h3 := Lib.hid h3; replace f3 := Lib.hid f3; obtain ⟨⟨r0, r1, r2, r3, r4, r5, r6⟩, y0, y1, y2, y3, y4, y5, y6⟩ := At.seven R3; have ltr := R3.lt)
                    generalize hV4 : World.setCell (World.setCell _ _ _) _ _ = V4
                    have H4 : Hid (At V4 n2 [.int .i64 0, .int .u8 0, .bool false, .int .i64 0, .bool false, .int .i64 0, .bool false] ∧ Far (fun b => b = n2) w3 V4) := Lib.hid (by rw [← hV4]; exact At.put7 R3 _ _ _ _ _ _ _)
                    have X4 := Lib.hid ((HX2.out.far f3.out (by omega)).far H4.out.2 hmn)
                    have h4 : Hid (PaiAt V4 p q e hb' g2) := Lib.hid (h3.out.far H4.out.2 (by have := hgv.out; omega) (by omega) (by omega) (by have := hgv.out; have := hbb.out; have := hsv.out; omega))
                    have HG4 : Hid (Grew w V4) := Lib.hid (((Far.of_grew (F := fun b => b = q ∨ b = e ∨ b = n2) HG2.out).trans ((f3.out.mono (fun _ _ z => by rcases z with z | z; exact .inl z; exact .inr (.inl z))).trans (H4.out.2.mono (fun _ _ z => .inr (.inr z))))).grew (Grew.refl w) (fun z hz => by have := hgv.out; omega))
                    obtain ⟨⟨s0, s1, s2, s3, s4, s5, s6⟩, -⟩ := At.seven H4.out.1
                    have j0 := X4.out.cell 0 _ rfl
                    have j2 := X4.out.cell 2 _ rfl
                    have j3 := X4.out.cell 3 _ rfl
                    have j4 := X4.out.cell 4 _ rfl
                    have j5 := X4.out.cell 5 _ rfl
                    have j6 := X4.out.cell 6 _ rfl
                    have j7 := X4.out.cell 7 _ rfl
                    have j8 := X4.out.cell 8 _ rfl
                    have lts := H4.out.1.lt
                    have ltj := X4.out.lt
                    have HF := Lib.hid (And.intro h4.out (And.intro HFin.out.1 (And.intro HFin.out.2 HG4.out)))
                    clear hV4 R3 r0 r1 r2 r3 r4 r5 r6 y0 y1 y2 y3 y4 y5 y6 ltr k0 k2 k3 k4 k5 k6 k7 k8 H4 X4 h4 h3 f3 HG4 HX2 HP2 R2 HE1 HFin
                    go_wp2_with fail
                    go_round
                    case rel => exact ⟨k + 1, hb', g2, last, xa, xa, next, by omega, rfl, rfl, rfl, rfl, by first | rfl | go_num, HF⟩
                    case measure => simp [intOf]; omega
                  | some P =>
                    have HS := Lib.hid (HON.out.edge_some HKG.out hc1'.out hc2'.out hs)
                    have hle : ¬ win < xa - next := by have := HS.out.2.2.2.1; rw [HWI.out] at this; omega
                    have hlast : ¬ xa ≤ last := by have := HS.out.2.2.2.2.1; omega
                    have ew : IntKind.i64.wrap (xa - next) = xa - next := IntWalk.i64_in _ (by have := HS.out.2.2.2.2.2; omega)
                    have HE1 : ∀ w', PaiAt w' p q e hb g → Hid (Calls Try.prog 8 #[.pointer (some ⟨p, 0, none⟩), .int .i64 xa] w' fun y w'' => y = .returned (.tuple #[.agg #[.int .i64 xa, .int .u8 P.msg.kind, .bool P.msg.utc, .int .i64 P.msg.sec, .bool P.msg.leap, .int .i64 P.msg.cycle, .bool true], .bool true]) ∧ (∃ hb', PaiAt w'' p q e hb' (g.edge xa) ∧ (hb' = hb ∨ w'.heap.size ≤ hb')) ∧ Far (fun b => b = q ∨ b = e) w' w'') := fun w' hq => Lib.hid (by
                      have := pai_Edge w' p q e hb g xa hq hbo.2
                      rw [hs] at this
                      unfold pdV Pd.value at this
                      simp only [Option.getD_some, Option.isSome_some] at this
                      rw [HS.out.2.1, HS.out.2.2.1] at this
                      exact this.mono fun _ _ ⟨a, b, c⟩ => ⟨a, ⟨_, b, .inl rfl⟩, c⟩)
                    have HFin : Hid (OnceOk (g.edge xa) xa xa xa next ∧ (g.edge xa).win = win) := Lib.hid ⟨HS.out.1, by rw [win_edge]; exact HWI.out⟩
                    generalize (g.edge xa) = g2 at *
                    generalize hV2 : V.alloc _ = V2
                    have g2v : Grew V V2 := by rw [← hV2]; exact (Grew.refl V).alloc _
                    have R2 : Hid (At V2 V.heap.size noPdC) := Lib.hid (by rw [← hV2]; exact At.new V noPdC _)
                    have HP2 := Lib.hid (HP.out.grew g2v)
                    have HX2 := Lib.hid (HX.out.grew g2v)
                    have HG2 := Lib.hid (HGV.out.trans g2v)
                    have hmq : V.heap.size ≠ q := by have := HP.out.pag.at_.lt; omega
                    have hme : V.heap.size ≠ e := by have := HP.out.pag.log.lt; omega
                    have hmn : n ≠ V.heap.size := by omega
                    have hgv := Lib.hid (And.intro HP.out.top.lt (And.intro HGV.out.size HP.out.pag.hl))
                    have hsv : Hid (V2.heap.size = V.heap.size + 1) := Lib.hid (by rw [← hV2]; simp)
                    have hqw : w.heap.size ≤ q ∧ w.heap.size ≤ e := by have := sz1.out; omega
                    have k2 := HX2.out.cell 2 _ rfl
                    have k3 := HX2.out.cell 3 _ rfl
                    have k4 := HX2.out.cell 4 _ rfl
                    have k5 := HX2.out.cell 5 _ rfl
                    have k6 := HX2.out.cell 6 _ rfl
                    have k7 := HX2.out.cell 7 _ rfl
                    have k8 := HX2.out.cell 8 _ rfl
                    have k0 := HX2.out.cell 0 _ rfl
                    have ltn2 := HX2.out.lt
                    clear hV2 g2v f0 f1 f2 ltn HF HX HP HGV
                    generalize V.heap.size = n2 at *
                    go_upto_region 16 with (go_at_call 8; refine (HE1 _ HP2.out).out.mono ?_; rintro y w3 ⟨rfl, ⟨hb', h3, hbb⟩, f3⟩; replace hbb := Lib.hid hbb; have R3 := R2.out.far f3 (by omega); replace h3 := Lib.hid h3; replace f3 := Lib.hid f3; obtain ⟨⟨r0, r1, r2, r3, r4, r5, r6⟩, y0, y1, y2, y3, y4, y5, y6⟩ := At.seven R3; have ltr := R3.lt)
                    generalize hV4 : World.setCell (World.setCell _ _ _) _ _ = V4
                    have H4 : Hid (At V4 n2 [.int .i64 xa, .int .u8 P.msg.kind, .bool P.msg.utc, .int .i64 P.msg.sec, .bool P.msg.leap, .int .i64 P.msg.cycle, .bool true] ∧ Far (fun b => b = n2) w3 V4) := Lib.hid (by rw [← hV4]; exact At.put7 R3 _ _ _ _ _ _ _)
                    have X4 := Lib.hid ((HX2.out.far f3.out (by omega)).far H4.out.2 hmn)
                    have h4 : Hid (PaiAt V4 p q e hb' g2) := Lib.hid (h3.out.far H4.out.2 (by have := hgv.out; omega) (by omega) (by omega) (by have := hgv.out; have := hbb.out; have := hsv.out; omega))
                    have HG4 : Hid (Grew w V4) := Lib.hid (((Far.of_grew (F := fun b => b = q ∨ b = e ∨ b = n2) HG2.out).trans ((f3.out.mono (fun _ _ z => by rcases z with z | z; exact .inl z; exact .inr (.inl z))).trans (H4.out.2.mono (fun _ _ z => .inr (.inr z))))).grew (Grew.refl w) (fun z hz => by have := hgv.out; omega))
                    obtain ⟨⟨s0, s1, s2, s3, s4, s5, s6⟩, -⟩ := At.seven H4.out.1
                    have j0 := X4.out.cell 0 _ rfl
                    have j2 := X4.out.cell 2 _ rfl
                    have j3 := X4.out.cell 3 _ rfl
                    have j4 := X4.out.cell 4 _ rfl
                    have j5 := X4.out.cell 5 _ rfl
                    have j6 := X4.out.cell 6 _ rfl
                    have j7 := X4.out.cell 7 _ rfl
                    have j8 := X4.out.cell 8 _ rfl
                    have lts := H4.out.1.lt
                    have ltj := X4.out.lt
                    have HF := Lib.hid (And.intro h4.out (And.intro HFin.out.1 (And.intro HFin.out.2 HG4.out)))
                    clear hV4 R3 r0 r1 r2 r3 r4 r5 r6 y0 y1 y2 y3 y4 y5 y6 ltr k0 k2 k3 k4 k5 k6 k7 k8 H4 X4 h4 h3 f3 HG4 HX2 HP2 R2 HE1 HFin
                    go_wp2_with fail
                    go_round
                    case rel => exact ⟨k + 1, hb', g2, xa, xa, xa, next, by omega, rfl, rfl, rfl, rfl, by first | rfl | go_num, HF⟩
                    case measure => simp [intOf]; omega
              | false =>
                have hc1' := Lib.hid hc1
                go_upto_region 18 with fail
                have hgn : Hid (p < n ∧ w.heap.size ≤ n) := HGN
                cases xn with
                | true =>
                    have HE1 : ∀ w', PaiAt w' p q e hb g → Hid (Calls Try.prog 9 #[.pointer (some ⟨p, 0, none⟩), .int .i64 xa, .agg #[.int .u8 xk, .bool xu, .int .i64 xs, .bool xl, .int .i64 xy, .bool true]] w' fun y w'' => y = .returned (.tuple #[.agg #[.int .i64 0, .int .u8 0, .bool false, .int .i64 0, .bool false, .int .i64 0, .bool false], .bool false]) ∧ (∃ hb', PaiAt w'' p q e hb' (g.msg xa ⟨xk, xu, xs, xl, xy, true⟩) ∧ (hb' = hb ∨ w'.heap.size ≤ hb')) ∧ Far (fun b => b = q ∨ b = e) w' w'') := fun w' hq => Lib.hid (by
                      have := pai_Message w' p q e hb g xa ⟨xk, xu, xs, xl, xy, true⟩ hq hbo.2
                      unfold MsgToldP at this
                      rw [(HON.out.msg_next (x := ⟨xk, xu, xs, xl, xy, true⟩) hc1'.out rfl).2] at this
                      exact this.mono fun _ _ ⟨hb', a, b, d, c⟩ => ⟨a, ⟨hb', b, d⟩, c⟩)
                    have HFin : Hid (OnceOk (g.msg xa ⟨xk, xu, xs, xl, xy, true⟩) last edge xa xa ∧ (g.msg xa ⟨xk, xu, xs, xl, xy, true⟩).win = win) := Lib.hid ⟨(HON.out.msg_next hc1'.out rfl).1, by rw [win_msg]; exact HWI.out⟩
                    generalize (g.msg xa ⟨xk, xu, xs, xl, xy, true⟩) = g2 at *
                    generalize hV2 : V.alloc _ = V2
                    have g2v : Grew V V2 := by rw [← hV2]; exact (Grew.refl V).alloc _
                    have R2 : Hid (At V2 V.heap.size noPdC) := Lib.hid (by rw [← hV2]; exact At.new V noPdC _)
                    have HP2 := Lib.hid (HP.out.grew g2v)
                    have HX2 := Lib.hid (HX.out.grew g2v)
                    have HG2 := Lib.hid (HGV.out.trans g2v)
                    have hmq : V.heap.size ≠ q := by have := HP.out.pag.at_.lt; omega
                    have hme : V.heap.size ≠ e := by have := HP.out.pag.log.lt; omega
                    have hmn : n ≠ V.heap.size := by omega
                    have hgv := Lib.hid (And.intro HP.out.top.lt (And.intro HGV.out.size HP.out.pag.hl))
                    have hsv : Hid (V2.heap.size = V.heap.size + 1) := Lib.hid (by rw [← hV2]; simp)
                    have hqw : w.heap.size ≤ q ∧ w.heap.size ≤ e := by have := sz1.out; omega
                    have k2 := HX2.out.cell 2 _ rfl
                    have k3 := HX2.out.cell 3 _ rfl
                    have k4 := HX2.out.cell 4 _ rfl
                    have k5 := HX2.out.cell 5 _ rfl
                    have k6 := HX2.out.cell 6 _ rfl
                    have k7 := HX2.out.cell 7 _ rfl
                    have k8 := HX2.out.cell 8 _ rfl
                    have k0 := HX2.out.cell 0 _ rfl
                    have ltn2 := HX2.out.lt
                    clear hV2 g2v f0 f1 f2 ltn HF HX HP HGV
                    generalize V.heap.size = n2 at *
                    go_upto_region 19 with (go_at_call 9; refine (HE1 _ HP2.out).out.mono ?_; rintro y w3 ⟨rfl, ⟨hb', h3, hbb⟩, f3⟩; replace hbb := Lib.hid hbb; have R3 := R2.out.far f3 (by omega); replace h3 := Lib.hid h3; replace f3 := Lib.hid f3; obtain ⟨⟨r0, r1, r2, r3, r4, r5, r6⟩, y0, y1, y2, y3, y4, y5, y6⟩ := At.seven R3; have ltr := R3.lt)
                    generalize hV4 : World.setCell (World.setCell _ _ _) _ _ = V4
                    have H4 : Hid (At V4 n2 [.int .i64 0, .int .u8 0, .bool false, .int .i64 0, .bool false, .int .i64 0, .bool false] ∧ Far (fun b => b = n2) w3 V4) := Lib.hid (by rw [← hV4]; exact At.put7 R3 _ _ _ _ _ _ _)
                    have X4 := Lib.hid ((HX2.out.far f3.out (by omega)).far H4.out.2 hmn)
                    have h4 : Hid (PaiAt V4 p q e hb' g2) := Lib.hid (h3.out.far H4.out.2 (by have := hgv.out; omega) (by omega) (by omega) (by have := hgv.out; have := hbb.out; have := hsv.out; omega))
                    have HG4 : Hid (Grew w V4) := Lib.hid (((Far.of_grew (F := fun b => b = q ∨ b = e ∨ b = n2) HG2.out).trans ((f3.out.mono (fun _ _ z => by rcases z with z | z; exact .inl z; exact .inr (.inl z))).trans (H4.out.2.mono (fun _ _ z => .inr (.inr z))))).grew (Grew.refl w) (fun z hz => by have := hgv.out; omega))
                    obtain ⟨⟨s0, s1, s2, s3, s4, s5, s6⟩, -⟩ := At.seven H4.out.1
                    have j0 := X4.out.cell 0 _ rfl
                    have j2 := X4.out.cell 2 _ rfl
                    have j3 := X4.out.cell 3 _ rfl
                    have j4 := X4.out.cell 4 _ rfl
                    have j5 := X4.out.cell 5 _ rfl
                    have j6 := X4.out.cell 6 _ rfl
                    have j7 := X4.out.cell 7 _ rfl
                    have j8 := X4.out.cell 8 _ rfl
                    have lts := H4.out.1.lt
                    have ltj := X4.out.lt
                    have HF := Lib.hid (And.intro h4.out (And.intro HFin.out.1 (And.intro HFin.out.2 HG4.out)))
                    clear hV4 R3 r0 r1 r2 r3 r4 r5 r6 y0 y1 y2 y3 y4 y5 y6 ltr k0 k2 k3 k4 k5 k6 k7 k8 H4 X4 h4 h3 f3 HG4 HX2 HP2 R2 HE1 HFin
                    go_wp2_with fail
                    go_round
                    case rel => exact ⟨k + 1, hb', g2, last, edge, xa, xa, by omega, rfl, rfl, rfl, rfl, by first | rfl | go_num, HF⟩
                    case measure => simp [intOf]; omega
                | false =>
                  cases hs : g.msgP xa ⟨xk, xu, xs, xl, xy, false⟩ with
                  | none =>
                      have HE1 : ∀ w', PaiAt w' p q e hb g → Hid (Calls Try.prog 9 #[.pointer (some ⟨p, 0, none⟩), .int .i64 xa, .agg #[.int .u8 xk, .bool xu, .int .i64 xs, .bool xl, .int .i64 xy, .bool false]] w' fun y w'' => y = .returned (.tuple #[.agg #[.int .i64 0, .int .u8 0, .bool false, .int .i64 0, .bool false, .int .i64 0, .bool false], .bool false]) ∧ (∃ hb', PaiAt w'' p q e hb' (g.msg xa ⟨xk, xu, xs, xl, xy, false⟩) ∧ (hb' = hb ∨ w'.heap.size ≤ hb')) ∧ Far (fun b => b = q ∨ b = e) w' w'') := fun w' hq => Lib.hid (by
                        have := pai_Message w' p q e hb g xa ⟨xk, xu, xs, xl, xy, false⟩ hq hbo.2
                        unfold MsgToldP at this
                        rw [hs] at this
                        exact this.mono fun _ _ ⟨hb', a, b, d, c⟩ => ⟨a, ⟨hb', b, d⟩, c⟩)
                      have HFin : Hid (OnceOk (g.msg xa ⟨xk, xu, xs, xl, xy, false⟩) last edge xa next ∧ (g.msg xa ⟨xk, xu, xs, xl, xy, false⟩).win = win) := Lib.hid ⟨HON.out.msg_none hc1'.out rfl hs, by rw [win_msg]; exact HWI.out⟩
                      generalize (g.msg xa ⟨xk, xu, xs, xl, xy, false⟩) = g2 at *
                      generalize hV2 : V.alloc _ = V2
                      have g2v : Grew V V2 := by rw [← hV2]; exact (Grew.refl V).alloc _
                      have R2 : Hid (At V2 V.heap.size noPdC) := Lib.hid (by rw [← hV2]; exact At.new V noPdC _)
                      have HP2 := Lib.hid (HP.out.grew g2v)
                      have HX2 := Lib.hid (HX.out.grew g2v)
                      have HG2 := Lib.hid (HGV.out.trans g2v)
                      have hmq : V.heap.size ≠ q := by have := HP.out.pag.at_.lt; omega
                      have hme : V.heap.size ≠ e := by have := HP.out.pag.log.lt; omega
                      have hmn : n ≠ V.heap.size := by omega
                      have hgv := Lib.hid (And.intro HP.out.top.lt (And.intro HGV.out.size HP.out.pag.hl))
                      have hsv : Hid (V2.heap.size = V.heap.size + 1) := Lib.hid (by rw [← hV2]; simp)
                      have hqw : w.heap.size ≤ q ∧ w.heap.size ≤ e := by have := sz1.out; omega
                      have k2 := HX2.out.cell 2 _ rfl
                      have k3 := HX2.out.cell 3 _ rfl
                      have k4 := HX2.out.cell 4 _ rfl
                      have k5 := HX2.out.cell 5 _ rfl
                      have k6 := HX2.out.cell 6 _ rfl
                      have k7 := HX2.out.cell 7 _ rfl
                      have k8 := HX2.out.cell 8 _ rfl
                      have k0 := HX2.out.cell 0 _ rfl
                      have ltn2 := HX2.out.lt
                      clear hV2 g2v f0 f1 f2 ltn HF HX HP HGV
                      generalize V.heap.size = n2 at *
                      go_upto_region 19 with (go_at_call 9; refine (HE1 _ HP2.out).out.mono ?_; rintro y w3 ⟨rfl, ⟨hb', h3, hbb⟩, f3⟩; replace hbb := Lib.hid hbb; have R3 := R2.out.far f3 (by omega); replace h3 := Lib.hid h3; replace f3 := Lib.hid f3; obtain ⟨⟨r0, r1, r2, r3, r4, r5, r6⟩, y0, y1, y2, y3, y4, y5, y6⟩ := At.seven R3; have ltr := R3.lt)
                      generalize hV4 : World.setCell (World.setCell _ _ _) _ _ = V4
                      have H4 : Hid (At V4 n2 [.int .i64 0, .int .u8 0, .bool false, .int .i64 0, .bool false, .int .i64 0, .bool false] ∧ Far (fun b => b = n2) w3 V4) := Lib.hid (by rw [← hV4]; exact At.put7 R3 _ _ _ _ _ _ _)
                      have X4 := Lib.hid ((HX2.out.far f3.out (by omega)).far H4.out.2 hmn)
                      have h4 : Hid (PaiAt V4 p q e hb' g2) := Lib.hid (h3.out.far H4.out.2 (by have := hgv.out; omega) (by omega) (by omega) (by have := hgv.out; have := hbb.out; have := hsv.out; omega))
                      have HG4 : Hid (Grew w V4) := Lib.hid (((Far.of_grew (F := fun b => b = q ∨ b = e ∨ b = n2) HG2.out).trans ((f3.out.mono (fun _ _ z => by rcases z with z | z; exact .inl z; exact .inr (.inl z))).trans (H4.out.2.mono (fun _ _ z => .inr (.inr z))))).grew (Grew.refl w) (fun z hz => by have := hgv.out; omega))
                      obtain ⟨⟨s0, s1, s2, s3, s4, s5, s6⟩, -⟩ := At.seven H4.out.1
                      have j0 := X4.out.cell 0 _ rfl
                      have j2 := X4.out.cell 2 _ rfl
                      have j3 := X4.out.cell 3 _ rfl
                      have j4 := X4.out.cell 4 _ rfl
                      have j5 := X4.out.cell 5 _ rfl
                      have j6 := X4.out.cell 6 _ rfl
                      have j7 := X4.out.cell 7 _ rfl
                      have j8 := X4.out.cell 8 _ rfl
                      have lts := H4.out.1.lt
                      have ltj := X4.out.lt
                      have HF := Lib.hid (And.intro h4.out (And.intro HFin.out.1 (And.intro HFin.out.2 HG4.out)))
                      clear hV4 R3 r0 r1 r2 r3 r4 r5 r6 y0 y1 y2 y3 y4 y5 y6 ltr k0 k2 k3 k4 k5 k6 k7 k8 H4 X4 h4 h3 f3 HG4 HX2 HP2 R2 HE1 HFin
                      go_wp2_with fail
                      go_round
                      case rel => exact ⟨k + 1, hb', g2, last, edge, xa, next, by omega, rfl, rfl, rfl, rfl, by first | rfl | go_num, HF⟩
                      case measure => simp [intOf]; omega
                  | some P =>
                      have HS := Lib.hid (HON.out.msg_some HKG.out hc1'.out rfl hs)
                      have hle : ¬ win < xa - edge := by have := HS.out.2.2.2.1; rw [HWI.out] at this; omega
                      have hlast : ¬ edge ≤ last := by have := HS.out.2.2.2.2.1; omega
                      have ew : IntKind.i64.wrap (xa - edge) = xa - edge := IntWalk.i64_in _ (by have := HS.out.2.2.2.2.2; omega)
                      have HE1 : ∀ w', PaiAt w' p q e hb g → Hid (Calls Try.prog 9 #[.pointer (some ⟨p, 0, none⟩), .int .i64 xa, .agg #[.int .u8 xk, .bool xu, .int .i64 xs, .bool xl, .int .i64 xy, .bool false]] w' fun y w'' => y = .returned (.tuple #[.agg #[.int .i64 edge, .int .u8 xk, .bool xu, .int .i64 xs, .bool xl, .int .i64 xy, .bool false], .bool true]) ∧ (∃ hb', PaiAt w'' p q e hb' (g.msg xa ⟨xk, xu, xs, xl, xy, false⟩) ∧ (hb' = hb ∨ w'.heap.size ≤ hb')) ∧ Far (fun b => b = q ∨ b = e) w' w'') := fun w' hq => Lib.hid (by
                        have := pai_Message w' p q e hb g xa ⟨xk, xu, xs, xl, xy, false⟩ hq hbo.2
                        unfold MsgToldP at this
                        rw [hs] at this
                        unfold pdV Pd.value at this
                        simp only [Option.getD_some, Option.isSome_some] at this
                        rw [HS.out.2.1, HS.out.2.2.1] at this
                        exact this.mono fun _ _ ⟨hb', a, b, d, c⟩ => ⟨a, ⟨hb', b, d⟩, c⟩)
                      have HFin : Hid (OnceOk (g.msg xa ⟨xk, xu, xs, xl, xy, false⟩) edge edge xa next ∧ (g.msg xa ⟨xk, xu, xs, xl, xy, false⟩).win = win) := Lib.hid ⟨HS.out.1, by rw [win_msg]; exact HWI.out⟩
                      generalize (g.msg xa ⟨xk, xu, xs, xl, xy, false⟩) = g2 at *
                      generalize hV2 : V.alloc _ = V2
                      have g2v : Grew V V2 := by rw [← hV2]; exact (Grew.refl V).alloc _
                      have R2 : Hid (At V2 V.heap.size noPdC) := Lib.hid (by rw [← hV2]; exact At.new V noPdC _)
                      have HP2 := Lib.hid (HP.out.grew g2v)
                      have HX2 := Lib.hid (HX.out.grew g2v)
                      have HG2 := Lib.hid (HGV.out.trans g2v)
                      have hmq : V.heap.size ≠ q := by have := HP.out.pag.at_.lt; omega
                      have hme : V.heap.size ≠ e := by have := HP.out.pag.log.lt; omega
                      have hmn : n ≠ V.heap.size := by omega
                      have hgv := Lib.hid (And.intro HP.out.top.lt (And.intro HGV.out.size HP.out.pag.hl))
                      have hsv : Hid (V2.heap.size = V.heap.size + 1) := Lib.hid (by rw [← hV2]; simp)
                      have hqw : w.heap.size ≤ q ∧ w.heap.size ≤ e := by have := sz1.out; omega
                      have k2 := HX2.out.cell 2 _ rfl
                      have k3 := HX2.out.cell 3 _ rfl
                      have k4 := HX2.out.cell 4 _ rfl
                      have k5 := HX2.out.cell 5 _ rfl
                      have k6 := HX2.out.cell 6 _ rfl
                      have k7 := HX2.out.cell 7 _ rfl
                      have k8 := HX2.out.cell 8 _ rfl
                      have k0 := HX2.out.cell 0 _ rfl
                      have ltn2 := HX2.out.lt
                      clear hV2 g2v f0 f1 f2 ltn HF HX HP HGV
                      generalize V.heap.size = n2 at *
                      go_upto_region 19 with (go_at_call 9; refine (HE1 _ HP2.out).out.mono ?_; rintro y w3 ⟨rfl, ⟨hb', h3, hbb⟩, f3⟩; replace hbb := Lib.hid hbb; have R3 := R2.out.far f3 (by omega); replace h3 := Lib.hid h3; replace f3 := Lib.hid f3; obtain ⟨⟨r0, r1, r2, r3, r4, r5, r6⟩, y0, y1, y2, y3, y4, y5, y6⟩ := At.seven R3; have ltr := R3.lt)
                      generalize hV4 : World.setCell (World.setCell _ _ _) _ _ = V4
                      have H4 : Hid (At V4 n2 [.int .i64 edge, .int .u8 xk, .bool xu, .int .i64 xs, .bool xl, .int .i64 xy, .bool false] ∧ Far (fun b => b = n2) w3 V4) := Lib.hid (by rw [← hV4]; exact At.put7 R3 _ _ _ _ _ _ _)
                      have X4 := Lib.hid ((HX2.out.far f3.out (by omega)).far H4.out.2 hmn)
                      have h4 : Hid (PaiAt V4 p q e hb' g2) := Lib.hid (h3.out.far H4.out.2 (by have := hgv.out; omega) (by omega) (by omega) (by have := hgv.out; have := hbb.out; have := hsv.out; omega))
                      have HG4 : Hid (Grew w V4) := Lib.hid (((Far.of_grew (F := fun b => b = q ∨ b = e ∨ b = n2) HG2.out).trans ((f3.out.mono (fun _ _ z => by rcases z with z | z; exact .inl z; exact .inr (.inl z))).trans (H4.out.2.mono (fun _ _ z => .inr (.inr z))))).grew (Grew.refl w) (fun z hz => by have := hgv.out; omega))
                      obtain ⟨⟨s0, s1, s2, s3, s4, s5, s6⟩, -⟩ := At.seven H4.out.1
                      have j0 := X4.out.cell 0 _ rfl
                      have j2 := X4.out.cell 2 _ rfl
                      have j3 := X4.out.cell 3 _ rfl
                      have j4 := X4.out.cell 4 _ rfl
                      have j5 := X4.out.cell 5 _ rfl
                      have j6 := X4.out.cell 6 _ rfl
                      have j7 := X4.out.cell 7 _ rfl
                      have j8 := X4.out.cell 8 _ rfl
                      have lts := H4.out.1.lt
                      have ltj := X4.out.lt
                      have HF := Lib.hid (And.intro h4.out (And.intro HFin.out.1 (And.intro HFin.out.2 HG4.out)))
                      clear hV4 R3 r0 r1 r2 r3 r4 r5 r6 y0 y1 y2 y3 y4 y5 y6 ltr k0 k2 k3 k4 k5 k6 k7 k8 H4 X4 h4 h3 f3 HG4 HX2 HP2 R2 HE1 HFin
                      go_wp2_with fail
                      go_round
                      case rel => exact ⟨k + 1, hb', g2, edge, edge, xa, next, by omega, rfl, rfl, rfl, rfl, by first | rfl | go_num, HF⟩
                      case measure => simp [intOf]; omega
        · obtain rfl : k = l.length := by omega
          have HGG := Lib.hid HE.out.2.2.2
          have HEn := fun w' => Lib.hid (pai_Edge_none w' 5)
          have HMn := fun w' => Lib.hid (pai_Message_none w' 5 (by decide))
          unfold pdV Pd.value at HEn HMn
          simp only [Option.getD_none] at HEn HMn
          unfold noPd noMs at HEn HMn
          simp only at HEn HMn
          go_upto_region 31 with (first
            | (go_at_call 8; refine (HEn _).out.mono ?_; rintro y w2 ⟨rfl, g2⟩)
            | (go_at_call 9; refine (HMn _).out.mono ?_; rintro y w3 ⟨rfl, g3⟩))
          have HWn := fun w' => Lib.hid (pai_Waits_none w')
          have HCn := fun w' => Lib.hid (pai_Copy_none w')
          go_wp2_with (first
            | (go_at_call 13; refine (HWn _).out.mono ?_; rintro y w4 ⟨rfl, g4⟩)
            | (go_at_call 7; refine (HCn _).out.mono ?_; rintro y w5 ⟨rfl, hw5⟩; subst hw5)
            | (go_at_call 5; refine (HK _).out.mono ?_; rintro e w9 ⟨rfl, g9⟩))
          go_ret
          exact ⟨rfl, HGG.out.trans ((g2.alloc _).trans ((g3.alloc _).trans (g4.trans g9)))⟩
-- ONCE]
end Go.Proofs.Ytkijonnbngnliaa
