/-
  Package pages: turn.
-/
import Derived.Test.YtnhojcldeloigaaGreatPagesK
namespace Go.Proofs.YtnhojcldeloigaaGreat
open Go.RowKit Go.Lib Go.Maps
set_option maxRecDepth 100000
attribute [local go_sem] Oper.semAt_some

theorem calls_in_round {P : Program} {f : FuncId} {args : Array Value} {w : World} {R : Ending → World → Prop} (l n : Nat) (h : Calls P f args w R) : CallsIn (Fence.wide.inRound l) n P f args w R := (callsIn_wide (n := n)).2 h
/-- A post with the panics' clause put another way. -/
def catchP (p : List PanicEntry → Act → World → Prop) (Q : Exit → Act → World → Prop) : Exit → Act → World → Prop
  | .panic c, a, w => p c a w
  | e, a, w => Q e a w
theorem catchP_normal {p : List PanicEntry → Act → World → Prop} {Q : Exit → Act → World → Prop} {a : Act} {w : World} : catchP p Q .normal a w = Q .normal a w := rfl
theorem wpF_catch {f : FuncId} {P : Program} {c : Code} {Q : Exit → Act → World → Prop} {a : Act} {w : World} (p : List PanicEntry → Act → World → Prop) (h : c.wp P (catchP p Q) a w) (hp : ∀ c a w, p c a w → Q (.panic c) a w) : wpF f P c Q a w :=
  wpF_of_wp (wp_mono h fun e a w q => by
    cases e <;> first | exact hp _ _ _ q | exact q)
/-- Between two rounds of turn, j sectors written. -/
def TurnI (w : World) (F E G : Nat → Prop) (gd gb : Nat) (s : D) (g : BG) (ch : Nat → Option (List UInt8)) (l lo hi c : Nat) (ad : Addr) (sl : List UInt8) (j : Nat) (W : World) : Prop :=
  (s.runs (g.listW l sl j)).1 = 0 ∧ TFin w F E G gd (s.runs (g.listW l sl j)).2 gb g ch (w.heap.size + 4) W ∧ Has W w.heap.size 29 #[.pointer (some ⟨gb, 0, none⟩)] ∧ Has W (w.heap.size + 1) 3 #[.int .i64 ((g.listP l + j : Nat) : Int)] ∧ SlIs W lo hi (.slice (some ad) sl.length c) sl ∧ w.heap.size + 6 ≤ W.heap.size
/-- Behind a panic. -/
def TurnP (w : World) (F E G : Nat → Prop) (gd gb : Nat) (g : BG) (ch : Nat → Option (List UInt8)) (td : Int × D) (chain : List PanicEntry) (W : World) : Prop :=
  chain = [{ v := .iface 26 (.int .i64 td.1), recovered := false }] ∧ td.1 ≠ 0 ∧ TFin w F E G gd td.2 gb g ch (w.heap.size + 4) W
section
variable (F E G : Nat → Prop) (gd gb : Nat) (s : D) (g : BG) (ch : Nat → Option (List UInt8)) (w : World) (h : St w F E G gd s gb g ch)
include h
set_option maxHeartbeats 4000000 in
theorem pgturn_any (l c lo hi : Nat) (ad : Addr) (sl : List UInt8) (hl : l < 2) (ho : s.off = false) (hx : SlIs w lo hi (.slice (some ad) sl.length c) sl) (hhi : hi ≤ w.heap.size) (hfar : ∀ i, lo ≤ i → i < hi → ¬ F i ∧ ¬ G i) (hsl : sl.length = g.M * g.z) (hroom : s.Room 10) :
    Calls Tryz.prog 38 #[.pointer (some ⟨gb, 0, none⟩), .int .i64 (l : Int), .slice (some ad) sl.length c] w fun e w' => e = endsIn (turnD g s l sl).1 ∧ StStep w F E G gd (turnD g s l sl).2 gb g ch w' := by
  have hok := h.ok
  have hz1 := hok.z1
  have hz2 := hok.z2
  have hP := hok.lp hl
  have hM4 := Nat.le_trans hok.ML hok.L4
  have hn := hok.room
  have C0 := Lib.hid (fun w' (k : Only (fun _ => False) w w') => listplace_any F E G gd gb s g ch w' (h.new k) l (by omega))
  have HSL := Lib.hid hsl
  have hN4 := hok.Mz
  have hN5 : sl.length ≤ 4096 := by omega
  clear hsl
  obtain ⟨gm, hb⟩ := h.bk
  have GM := Lib.hid (fun w' (k : Only (fun _ => False) w w') => (k.cell (p := ⟨gb, 3, none⟩) hb.has.lt (fun h => h)).trans hb.cells.2.2.2.1)
  have CC := Lib.hid (chunk_any (some ad) sl.length c g.z (by omega))
  refine calls_of_wpF Tryz.func38 rfl ?_
  simp only [Tryz.ntmps38, List.size_toArray, List.length_cons, List.length_nil, Nat.reduceAdd, Nat.reduceSub, Array.replicate_succ, Array.replicate_zero, List.push_toArray, List.append_toArray, List.nil_append, List.cons_append]
  refine wpF_seq (wpF_of_wp ?_)
  go_wp2
  have K0 : Hid (Only (fun _ => False) w (w.alloc (.cells #[.pointer (some ⟨gb, 0, none⟩)] 29))) := (Only.refl _ w).alloc _
  have C1 := Lib.hid (C0.out _ K0.out)
  refine wpF_seq (wpF_of_wp ?_)
  go_wp2_with fail
  refine C1.out.mono ?_
  rintro e w1 ⟨rfl, rfl⟩
  go_wp2
  have K1 : Hid (Only (fun _ => False) w ((w.alloc (.cells #[.pointer (some ⟨gb, 0, none⟩)] 29)).alloc (.cells #[.int .i64 (g.listP l : Int)] 3))) := K0.out.alloc _
  have c3 := GM.out _ K1.out
  refine wpF_seq ?_
  refine wpF_seq (wpF_of_wp ?_)
  go_wp2_with fail
  refine (CC.out _).mono ?_
  rintro e w2 ⟨rfl, rfl⟩
  go_wp2
  refine wpF_block ?_
  have HSt := Lib.hid h
  have hlts := h.lts
  obtain ⟨W0, hW0⟩ : ∃ W0, W0 = ((((w.alloc (.cells #[.pointer (some ⟨gb, 0, none⟩)] 29)).alloc (.cells #[.int .i64 (g.listP l : Int)] 3)).alloc (.cells #[.slice (some ad) sl.length c] 33)).alloc (.cells #[.int .i64 (g.z : Int)] 3)) := ⟨_, rfl⟩
  have sz0 : W0.heap.size = w.heap.size + 4 := by rw [hW0]; simp
  have k0 : Only (fun _ => False) w W0 := by rw [hW0]; exact ((((Only.refl _ w).alloc _).alloc _).alloc _).alloc _
  have b0 : Has W0 w.heap.size 29 #[.pointer (some ⟨gb, 0, none⟩)] := by
    rw [hW0]
    exact (((Has.new w _ _).alloc _).alloc _).alloc _
  have b1 : Has W0 (w.heap.size + 1) 3 #[.int .i64 (g.listP l : Int)] := by
    rw [hW0]
    have := (((Has.new (w.alloc (.cells #[.pointer (some ⟨gb, 0, none⟩)] 29)) 3 #[.int .i64 (g.listP l : Int)]).alloc (.cells #[.slice (some ad) sl.length c] 33)).alloc (.cells #[.int .i64 (g.z : Int)] 3))
    simpa using this
  have b2 : Has W0 (w.heap.size + 2) 33 #[.slice (some ad) sl.length c] := by
    rw [hW0]
    have := ((Has.new ((w.alloc (.cells #[.pointer (some ⟨gb, 0, none⟩)] 29)).alloc (.cells #[.int .i64 (g.listP l : Int)] 3)) 33 #[.slice (some ad) sl.length c]).alloc (.cells #[.int .i64 (g.z : Int)] 3))
    simpa using this
  have b3 : Has W0 (w.heap.size + 3) 3 #[.int .i64 (g.z : Int)] := by
    rw [hW0]
    have := Has.new (((w.alloc (.cells #[.pointer (some ⟨gb, 0, none⟩)] 29)).alloc (.cells #[.int .i64 (g.listP l : Int)] 3)).alloc (.cells #[.slice (some ad) sl.length c] 33)) 3 #[.int .i64 (g.z : Int)]
    simpa using this
  have hcap : g.M * g.z ≤ c := by
    obtain ⟨A', c', e, q1, _⟩ := hx
    injection e with _ _ e
    subst e
    rw [← HSL.out]
    exact q1
  have c2 : W0.cell? ⟨w.heap.size + 2, 0, none⟩ = some (.slice (some ad) (g.M * g.z) c) := by rw [b2.cell 0, HSL.out]; rfl
  rw [← hW0]
  refine wpF_range (α := Fin g.M) Tryz.func38 (gf := 79) (lb := #[.pointer (some ⟨w.heap.size + 2, 0, none⟩), .pointer (some ⟨w.heap.size + 3, 0, none⟩)]) rfl (enters_of Tryz.func79 (by kernel_rfl) rfl)
    (chunk_panics (w.heap.size + 2) (w.heap.size + 3) g.M g.z c ad (by omega) (by omega) hcap W0 (by omega) (by omega) c2 (b3.cell 0))
    ?hKp (fun _ => rfl)
    (fun pre W => TurnI w F E G gd gb s g ch l lo hi c ad sl pre.length W)
    (fun chain W => TurnP w F E G gd gb g ch (turnD g s l sl) chain W)
    ?h0 ?hI
    (fun x => { tmps := #[.pointer (some ⟨gb, 0, none⟩), .int .i64 (l : Int), .slice (some ad) sl.length c, .pointer (some ⟨w.heap.size, 0, none⟩), undef, undef, .pointer (some ⟨w.heap.size + 1, 0, none⟩), .slice (some (ad.add (x.val * g.z))) g.z g.z, .pointer (some ⟨gb, 0, none⟩), .int .i64 (l : Int), .int .i64 (g.listP l : Int), .slice (some ad) sl.length c, .pointer (some ⟨gb, 0, none⟩), .pointer (some ⟨gb, 0, none⟩), .pointer (some ⟨gb, 3, none⟩), .int .i64 (g.z : Int), .func (.func 79) #[] #[.pointer (some ⟨w.heap.size + 2, 0, none⟩), .pointer (some ⟨w.heap.size + 3, 0, none⟩)], .slice (some (ad.add (x.val * g.z))) g.z g.z, undef, undef, undef, undef, undef, undef, undef, undef, undef, undef, undef, undef, undef, undef, undef], defers := [] })
    ?assign ?body ?done ?panic
  case hKp =>
    intro W W1 W2 W3 hW k1 hs q k2
    have hW' : w.heap.size + 5 < W.heap.size := by rw [sz0] at hW; omega
    have hs1 := k1.size
    refine ⟨((k2.block _ (by omega) (fun e => by rw [sz0] at e; omega)).trans q.1).trans (k1.block _ (by omega) (fun e => by rw [sz0] at e; omega)), ((k2.block _ (by omega) (fun e => by rw [sz0] at e; omega)).trans q.2).trans (k1.block _ (by omega) (fun e => by rw [sz0] at e; omega))⟩
  case h0 =>
    intro W k hs
    have kk : Only (fun _ => False) w W := k0.trans k (fun _ _ h => h)
    refine ⟨rfl, ⟨F, E, G, HSt.out.new kk, fun _ h => .inl h, fun _ h => .inl h, fun _ h => .inl h, kk.mono (fun _ _ h => h.elim)⟩, b0.only k (fun h => h), b1.only k (fun h => h), hx.only kk hhi (fun _ _ _ h => h), by omega⟩
  case hI =>
    rintro pre W W' ⟨q1, q2, q3, q4, q5, q6⟩ k
    refine ⟨q1, q2.only (k.mono (fun i _ e => by rw [sz0] at e; omega)) hlts.1 hlts.2.1 hlts.2.2, q3.only k (by rw [sz0]; omega), q4.only k (by rw [sz0]; omega), q5.only k (by omega) (fun i h1 h2 e => by rw [sz0] at e; omega), by have := k.size; omega⟩
  case assign =>
    intro l x W K hK
    gi_wp2
    exact hK
  case body =>
    rintro l' pre x W ⟨q1, q2, q3, q4, q5, q6⟩ hxp
    rw [sz0]
    obtain ⟨j, hj⟩ : ∃ j, j = pre.length := ⟨_, rfl⟩
    have hjM : j < g.M := by rw [hj, ← hxp]; exact x.isLt
    have hxv : x.val = j := by rw [hxp, hj]
    have hpl : (pre ++ [x]).length = j + 1 := by rw [List.length_append, hj]; rfl
    rw [hpl]
    rw [← hj] at q1 q2 q4
    rw [hxv]
    have hR10 := hroom.runs (ws := g.listW l sl j) (by simp [BG.listW]; omega)
    have hzl : j * g.z + g.z ≤ sl.length := by
      have : (j + 1) * g.z ≤ g.M * g.z := Nat.mul_le_mul_right _ hjM
      rw [Nat.succ_mul] at this
      have := HSL.out
      omega
    have px := q5.piece (k := j * g.z) (z := g.z) hzl
    have CW := tf_write q2 (by omega) (by omega) (hR10.small) (g.listP l + j) lo hi _ _ (by omega) px (by omega) (fun i h1 h2 => (hfar i h1 h2).1)
    have hstep := D.runs_one s (g.listW l sl j) (((g.at_ + (g.listP l + j) : Nat) : Int)) (piece g.z sl j) q1
    rw [← listW_succ] at hstep
    have hpc : (List.take g.z (List.drop (j * g.z) sl)) = piece g.z sl j := rfl
    rw [hpc, ← hstep] at CW
    have hstop := fun h => turnD_stops (g := g) (s := s) (l := l) (sl := sl) (m := j + 1) (by omega) h
    have HSTOP := Lib.hid hstop
    have cb0 := q3.cell 0
    have cb1 := q4.cell 0
    simp at cb0 cb1
    have HO : Hid (∀ W', Only (fun i => F i ∨ G i ∨ w.heap.size + 4 + 2 ≤ i) W W' → (W'.cell? ⟨w.heap.size, 0, none⟩ = some (.pointer (some ⟨gb, 0, none⟩)) ∧ W'.cell? ⟨w.heap.size + 1, 0, none⟩ = some (.int .i64 ((g.listP l : Int) + (j : Int))) ∧ W'.frozen? ⟨w.heap.size + 1, 0, none⟩ = false) ∧
        Only (fun i => i ≠ w.heap.size + 4 ∧ i ≠ w.heap.size + 4 + 1) W (W'.setCell ⟨w.heap.size + 1, 0, none⟩ (.int .i64 ((g.listP l : Int) + (j : Int) + 1))) ∧ KpB (w.heap.size + 2) (w.heap.size + 3) W (W'.setCell ⟨w.heap.size + 1, 0, none⟩ (.int .i64 ((g.listP l : Int) + (j : Int) + 1))) ∧
        Has (W'.setCell ⟨w.heap.size + 1, 0, none⟩ (.int .i64 ((g.listP l : Int) + (j : Int) + 1))) w.heap.size 29 #[.pointer (some ⟨gb, 0, none⟩)] ∧ Has (W'.setCell ⟨w.heap.size + 1, 0, none⟩ (.int .i64 ((g.listP l : Int) + (j : Int) + 1))) (w.heap.size + 1) 3 #[.int .i64 ((g.listP l + (j + 1) : Nat) : Int)] ∧
        SlIs (W'.setCell ⟨w.heap.size + 1, 0, none⟩ (.int .i64 ((g.listP l : Int) + (j : Int) + 1))) lo hi (.slice (some ad) sl.length c) sl ∧ w.heap.size + 6 ≤ (W'.setCell ⟨w.heap.size + 1, 0, none⟩ (.int .i64 ((g.listP l : Int) + (j : Int) + 1))).heap.size) := fun W' k => by
      have kw : ∀ i, w.heap.size ≤ i → i < w.heap.size + 6 → ¬ (F i ∨ G i ∨ w.heap.size + 4 + 2 ≤ i) := fun i h1 h2 hS => by
        rcases hS with hS | hS | hS
        · have := hlts.1 i hS
          omega
        · have := hlts.2.2 i hS
          omega
        · omega
      have ks : Only (fun i => i = w.heap.size + 1) W' (W'.setCell ⟨w.heap.size + 1, 0, none⟩ (.int .i64 ((g.listP l : Int) + (j : Int) + 1))) := (Only.refl (fun i => i = w.heap.size + 1) W').setCell (p := ⟨w.heap.size + 1, 0, none⟩) (fun _ => rfl) _
      have hs := k.size
      have B0 := q3.only k (kw _ (by omega) (by omega))
      have B1 := q4.only k (kw _ (by omega) (by omega))
      have e1 := B1.cell 0
      simp at e1
      refine ⟨⟨B0.cell 0, e1, B1.frozen 0⟩, ?_, ⟨?_, ?_⟩, B0.only ks (by omega), ?_, ?_, by have := ks.size; omega⟩
      · refine (k.mono (T := fun i => i ≠ w.heap.size + 4 ∧ i ≠ w.heap.size + 4 + 1) (fun i hi hS => ⟨fun e => kw i (by omega) (by omega) hS, fun e => kw i (by omega) (by omega) hS⟩)).trans ks (fun i _ e => by have e : i = w.heap.size + 1 := e; omega)
      · exact (ks.block _ (by omega) (by omega)).trans (k.block _ (by omega) (kw _ (by omega) (by omega)))
      · exact (ks.block _ (by omega) (by omega)).trans (k.block _ (by omega) (kw _ (by omega) (by omega)))
      · have := B1.set 0 (.int .i64 ((g.listP l : Int) + (j : Int) + 1))
        have e : (((g.listP l + (j + 1) : Nat)) : Int) = (g.listP l : Int) + (j : Int) + 1 := by omega
        rw [e]
        exact this
      · have s1 := q5.only k (by omega) (fun i h1 h2 hS => by
          rcases hS with hS | hS | hS
          · exact (hfar i h1 h2).1 hS
          · exact (hfar i h1 h2).2 hS
          · omega)
        exact s1.only ks (by omega) (fun i h1 h2 e => by omega)
    have HT : Hid (∀ W' s', TFin w F E G gd s' gb g ch (w.heap.size + 4) W' → TFin w F E G gd s' gb g ch (w.heap.size + 4) (W'.setCell ⟨w.heap.size + 1, 0, none⟩ (.int .i64 ((g.listP l : Int) + (j : Int) + 1)))) := fun W' s' t =>
      t.only ((Only.refl (fun i => w.heap.size ≤ i ∧ i < w.heap.size + 4 + 2) W').setCell (p := ⟨w.heap.size + 1, 0, none⟩) (fun _ => ⟨show w.heap.size ≤ w.heap.size + 1 by omega, show w.heap.size + 1 < w.heap.size + 4 + 2 by omega⟩) _) hlts.1 hlts.2.1 hlts.2.2
    have ewr : IntKind.i64.wrap ((g.listP l : Int) + (j : Int) + 1) = (g.listP l : Int) + (j : Int) + 1 := IntWalk.i64_in _ (by omega)
    rw [Int.natCast_add] at CW
    have HTI : Hid (∀ W', (s.runs (g.listW l sl (j + 1))).1 = 0 → TFin w F E G gd (s.runs (g.listW l sl (j + 1))).2 gb g ch (w.heap.size + 4) W' → Has W' w.heap.size 29 #[.pointer (some ⟨gb, 0, none⟩)] → Has W' (w.heap.size + 1) 3 #[.int .i64 ((g.listP l + (j + 1) : Nat) : Int)] → SlIs W' lo hi (.slice (some ad) sl.length c) sl → w.heap.size + 6 ≤ W'.heap.size → TurnI w F E G gd gb s g ch l lo hi c ad sl (j + 1) W') := fun W' h1 h2 h3 h4 h5 h6 => ⟨h1, h2, h3, h4, h5, h6⟩
    generalize s.runs (g.listW l sl (j + 1)) = r at CW HSTOP HTI
    generalize turnD g s l sl = td at HSTOP ⊢
    clear q1 q2 q3 q4 q5 px hstep hpc hstop hR10 hpl hj
    by_cases hr : r.1 = 0
    · rw [hr, endsIn_zero] at CW
      have CW := Lib.hid CW
      gi_wp2_with fail
      refine ⟨trivial, ?_⟩
      refine (calls_in_round l' _ CW.out).mono ?_
      rintro e W2 ⟨rfl, t2, o2⟩
      obtain ⟨⟨d0, d1, d2⟩, r1, r2, r3, r4, r5, r6⟩ := HO.out W2 o2
      have T2 := Lib.hid (HT.out _ _ t2)
      have R1 := Lib.hid r1
      have R2 := Lib.hid r2
      have R3 := Lib.hid r3
      have R4 := Lib.hid r4
      have R5 := Lib.hid r5
      clear r1 r2 r3 r4 r5 t2 o2
      gi_wp2
      exact ⟨⟨R1.out, R2.out⟩, HTI.out _ hr T2.out R3.out R4.out R5.out r6⟩
    · rw [endsIn_no hr] at CW
      have CW := Lib.hid CW
      have hs := HSTOP.out hr
      have OO : Hid (∀ W', Only (fun i => F i ∨ G i ∨ w.heap.size + 4 + 2 ≤ i) W W' → Only (fun i => i ≠ w.heap.size + 4 ∧ i ≠ w.heap.size + 4 + 1) W W') := fun W' k => k.mono (fun i _ hS => by
        rcases hS with hS | hS | hS
        · have := hlts.1 i hS
          omega
        · have := hlts.2.2 i hS
          omega
        · omega)
      gi_wp2_with fail
      refine ⟨trivial, ?_⟩
      refine (calls_in_round l' _ CW.out).mono ?_
      rintro e W2 ⟨rfl, t2, o2⟩
      have T2 := Lib.hid t2
      have O2 := Lib.hid (OO.out W2 o2)
      have PP : Hid (TurnP w F E G gd gb g ch td [{ v := .iface 26 (.int .i64 r.1), recovered := false }] W2) := by
        rw [hs]
        exact ⟨rfl, hr, T2.out⟩
      clear t2 o2 hs
      gi_wp2
      exact ⟨O2.out, PP.out⟩
  case done =>
    rintro xs W rfl ⟨q1, q2, q3, q4, q5, q6⟩ hK
    rw [finUpto_length (Nat.le_refl _)] at q1 q2
    rw [sz0] at hK ⊢
    obtain ⟨s1, hs1⟩ : ∃ s1, s1 = (s.runs (g.listW l sl g.M)).2 := ⟨_, rfl⟩
    have hR1 : s1.Room 6 := by rw [hs1]; exact (hroom.runs (by simp [BG.listW]; omega)).less (by simp [BG.listW]; omega)
    have ho1 : s1.off = false := by rw [hs1, runs_off _ _ q1]; exact ho
    obtain ⟨hy1, hy2⟩ := sync_on ho1
    have htd : turnD g s l sl = andD (s1.sync.2.write ((g.at_ + 0 : Nat) : Int) (rootB g.z g.n g.k l)) D.sync := by
      unfold turnD
      rw [andD_ok (D.sync) q1, ← hs1, andD_ok _ hy1]
    rw [← hs1] at q2
    have hR2 : s1.sync.2.Room 6 := hR1.sync
    have C6 := tf_sync q2 (by omega) (by omega) hR1.small
    rw [hy1, endsIn_zero] at C6
    have C6 := Lib.hid C6
    have cb0 := q3.cell 0
    simp at cb0
    have HN := Lib.hid hn
    obtain ⟨s2, hs2⟩ : ∃ s2, s2 = s1.sync.2 := ⟨_, rfl⟩
    rw [← hs2] at C6 hR2 htd hy2
    have HTD := Lib.hid htd
    clear q1 q2 q4 q5 hs1 htd hs2 hy1
    refine wpF_seq (wpF_of_wp ?_)
    go_wp2_with fail
    refine C6.out.mono ?_
    rintro e w8 ⟨rfl, t8, o8⟩
    have hw8 : ∀ i, w.heap.size ≤ i → i < w.heap.size + 6 → w8.heap[i]? = W.heap[i]? := fun i h1 h2 => o8.block i (by omega) (fun hS => by
      rcases hS with hS | hS | hS
      · have := hlts.1 i hS
        omega
      · have := hlts.2.2 i hS
        omega
      · have hS : w.heap.size + 4 + 2 ≤ i := hS
        omega)
    have e8 : w8.cell? ⟨w.heap.size, 0, none⟩ = some (.pointer (some ⟨gb, 0, none⟩)) := (World.cell?_of_block (a := ⟨w.heap.size, 0, none⟩) (hw8 w.heap.size (by omega) (by omega))).trans cb0
    have hK8 : w8.heap[w.heap.size + 4]? = some (.deferred (some [])) := (hw8 _ (by omega) (by omega)).trans hK
    have sz8 : w.heap.size + 6 ≤ w8.heap.size := Nat.le_trans q6 o8.size
    have T8 := Lib.hid t8
    have HW8 := Lib.hid hK8
    have CRt : Hid (Calls Tryz.prog 70 #[.pointer (some ⟨gb, 0, none⟩), .int .i64 (l : Int)] w8.drew (NewB w8 g.z (rootB g.z g.n g.k l))) := by
      obtain ⟨F', E', G', d, _⟩ := t8
      exact (pgroot_any F' E' G' gd gb s2 g ch w8.drew (d.new ((Only.refl _ w8).drew)) l).mono fun e w' hh => ⟨hh.1, hh.2.1, hh.2.2.os, hh.2.2.tape, hh.2.2.output, hh.2.2.size, hh.2.2.block⟩
    have CW : Hid (∀ w9, NewB w8 g.z (rootB g.z g.n g.k l) (.returned (.slice (some ⟨w8.heap.size, 0, none⟩) g.z g.z)) w9 → Calls Tryz.prog 69 #[.pointer (some ⟨gb, 0, none⟩), .int .i64 0, .slice (some ⟨w8.heap.size, 0, none⟩) g.z g.z] w9 fun e w' => e = endsIn (s2.write ((g.at_ + 0 : Nat) : Int) (rootB g.z g.n g.k l)).1 ∧ TFin w F E G gd (s2.write ((g.at_ + 0 : Nat) : Int) (rootB g.z g.n g.k l)).2 gb g ch (w.heap.size + 4) w' ∧ Only (fun i => F i ∨ G i ∨ w.heap.size + 4 + 2 ≤ i) w8 w') :=
      fun w9 hnb => tf_root t8 (by omega) sz8 hR2.small (by have := HN.out; omega) l w9 hnb
    have hRw : (s2.write ((g.at_ + 0 : Nat) : Int) (rootB g.z g.n g.k l)).2.Small := by
      have := D.write_bounds8 s2 ((g.at_ + 0 : Nat) : Int) (rootB g.z g.n g.k l)
      exact ⟨by have := hR2.pend; omega, by have := hR2.armed; omega, by have := hR2.writes; omega⟩
    have hwo := write_off (s := s2) (i := ((g.at_ + 0 : Nat) : Int)) (b := rootB g.z g.n g.k l)
    have HWO : Hid ((s2.write ((g.at_ + 0 : Nat) : Int) (rootB g.z g.n g.k l)).1 = 0 → (s2.write ((g.at_ + 0 : Nat) : Int) (rootB g.z g.n g.k l)).2.off = false) := fun h0 => (hwo h0).trans hy2
    have GF : Hid (∀ W' s', TFin w F E G gd s' gb g ch (w.heap.size + 4) W' → Only (fun i => F i ∨ G i ∨ w.heap.size + 4 + 2 ≤ i) w8 W' → W'.heap[w.heap.size + 4]? = some (.deferred (some [])) ∧ StStep w F E G gd s' gb g ch (W'.putObj (w.heap.size + 4) (.deferred none))) := fun W' s' t k => by
      refine ⟨(k.block _ (by omega) (fun hS => ?_)).trans hK8, (t.only ((Only.of_grown (grownBy_putObj' W' _ _)).mono (fun i _ e => ?_)) hlts.1 hlts.2.1 hlts.2.2).step (by omega)⟩
      · rcases hS with hS | hS | hS
        · have := hlts.1 _ hS
          omega
        · have := hlts.2.2 _ hS
          omega
        · have hS : w.heap.size + 4 + 2 ≤ w.heap.size + 4 := hS
          omega
      · injection e with e
        omega
    generalize s2.write ((g.at_ + 0 : Nat) : Int) (rootB g.z g.n g.k l) = r2 at CW HTD hRw HWO
    clear t8 o8 hw8 hK8 hwo C6 hR2
    go_wp2
    refine wpF_seq (wpF_catch (fun c a W' => a.defers = [{ target := .collected (w.heap.size + 4), args := #[] }] ∧ c = [{ v := .iface 26 (.int .i64 r2.1), recovered := false }] ∧ r2.1 ≠ 0 ∧ TFin w F E G gd r2.2 gb g ch (w.heap.size + 4) W' ∧ Only (fun i => F i ∨ G i ∨ w.heap.size + 4 + 2 ≤ i) w8 W') ?_ ?hpan)
    case hpan =>
      rintro c a W' ⟨d1, rfl, hr2, t10, o10⟩
      obtain ⟨f1, f2⟩ := GF.out _ _ t10 o10
      show LeavesInM _ _ _ _ _ _ a.defers _ _
      rw [d1]
      refine ⟨by simp, .inl ⟨_, _, rfl, run_takeDeferred f1, ?_⟩⟩
      rw [HTD.out, andD_no _ hr2]
      exact ⟨(endsIn_no hr2).symm, f2⟩
    refine wp_region_held_drew (S := fun w' => w'.cell? ⟨w.heap.size, 0, none⟩ = some (.pointer (some ⟨gb, 0, none⟩))) (by kernel_rfl) ?_ (fun hHeld => ?_)
    · exact e8
    refine takeH (i := 0) (d := 26) (v := ?_) (by kernel_rfl) (by kernel_rfl) (by kernel_rfl) rfl (fun _ _ _ h => h) (by rfl) ?_ hHeld ?_
    rotate_left
    · intro o ho w' hSw
      cases ho
      have h1 := hSw
      go_simp
      try with_reducible rfl
    simp only [Act.put, List.setIfInBounds_toArray, List.set_cons_zero, List.set_cons_succ]
    refine takeH (i := 1) (d := 27) (v := ?_) (by kernel_rfl) (by kernel_rfl) (by kernel_rfl) rfl (fun _ _ _ h => h) (by rfl) ?_ hHeld ?_
    rotate_left
    · intro o ho w' hSw
      cases ho
      have h1 := hSw
      go_simp
      try with_reducible rfl
    simp only [Act.put, List.setIfInBounds_toArray, List.set_cons_zero, List.set_cons_succ]
    refine takeH (i := 2) (d := 28) (v := ?_) (by kernel_rfl) (by kernel_rfl) (by kernel_rfl) rfl (fun _ _ _ h => h) (by rfl) ?_ hHeld ?_
    rotate_left
    · intro o ho w' hSw
      cases ho
      have h1 := hSw
      go_simp
      try with_reducible rfl
    simp only [Act.put, List.setIfInBounds_toArray, List.set_cons_zero, List.set_cons_succ]
    refine wpAnyH_ready (rs := [3]) (by kernel_rfl) (by simp) ?_
    refine AllReadyH.cons rfl (fun K hK => ?_) AllReadyH.nil
    go_simp
    refine CRt.out.mono ?_
    rintro e w9 hnb
    have NB := Lib.hid hnb
    obtain ⟨rfl, _, lo9⟩ := hnb
    have e9 : w9.cell? ⟨w.heap.size, 0, none⟩ = some (.pointer (some ⟨gb, 0, none⟩)) := (World.cell?_of_block (lo9.block w.heap.size (show w.heap.size < w8.heap.size by omega))).trans e8
    clear lo9 CRt
    try go_wp2_with fail
    refine hK.out _ _ ?_ (fun hHeld => ?_)
    · exact e9
    clear hK K
    by_cases hr2 : r2.1 = 0
    · refine wpAnyH_ready (rs := [4]) (by kernel_rfl) (by simp) ?_
      refine AllReadyH.cons rfl (fun K hK => ?_) AllReadyH.nil
      go_simp
      refine (CW.out w9 NB.out).mono ?_
      rintro e w10 ⟨rfl, t10, o10⟩
      rw [hr2]
      have T10 := Lib.hid t10
      have e10 : w10.cell? ⟨w.heap.size, 0, none⟩ = some (.pointer (some ⟨gb, 0, none⟩)) := (o10.cell (p := ⟨w.heap.size, 0, none⟩) (show w.heap.size < w8.heap.size by omega) (fun h => by
        rcases h with h | h | h
        · have : w.heap.size < w.heap.size := hlts.1 _ h
          omega
        · have : w.heap.size < w.heap.size := hlts.2.2 _ h
          omega
        · have h : w.heap.size + 6 ≤ w.heap.size := h
          omega)).trans e8
      have s10 : w.heap.size + 6 ≤ w10.heap.size := Nat.le_trans sz8 o10.size
      have O10 := Lib.hid o10
      clear t10 o10
      refine hK.out _ _ ?_ (fun hHeld => ?_)
      · exact e10
      clear hK K
      refine wpAnyH_done (by kernel_rfl) ?_ _
      rw [catchP_normal]
      simp only [Exit.then]
      refine wpF_of_wp ?_
      obtain ⟨hy3, hy4⟩ := sync_on (HWO.out hr2)
      have C8 := tf_sync T10.out (by omega) (by omega) hRw
      rw [hy3, endsIn_zero] at C8
      have C8 := Lib.hid C8
      clear hRw
      go_wp2_with fail
      refine C8.out.mono ?_
      rintro e w11 ⟨rfl, t11, o11⟩
      have T11 := Lib.hid t11
      have K11 := Lib.hid (O10.out.trans o11 (fun _ _ h => h))
      clear t11 o11
      go_wp2
      obtain ⟨f1, f2⟩ := GF.out _ _ T11.out K11.out
      refine ⟨by simp, .inl ⟨_, _, rfl, run_takeDeferred f1, ?_⟩⟩
      rw [HTD.out, andD_ok _ hr2, hy3]
      exact ⟨_, by first | kernel_rfl | simp [results] | go_simp, endsIn_zero.symm, f2⟩
    · refine wpAnyH_ready (rs := [4]) (by kernel_rfl) (by simp) ?_
      refine AllReadyH.cons rfl (fun K hK => ?_) AllReadyH.nil
      go_simp
      refine (CW.out w9 NB.out).mono ?_
      rintro e w10 ⟨rfl, t10, o10⟩
      rw [endsIn_no hr2]
      exact ⟨rfl, rfl, t10, o10⟩
  case panic =>
    rintro chain W ⟨rfl, q1, q2⟩ hK
    rw [sz0] at hK ⊢
    refine ⟨by simp, .inl ⟨_, _, rfl, run_takeDeferred hK, ?_⟩⟩
    refine ⟨(endsIn_no q1).symm, (q2.only ((Only.of_grown (grownBy_putObj' W _ _)).mono (fun i _ e => ?_)) hlts.1 hlts.2.1 hlts.2.2).step (by omega)⟩
    injection e with e
    omega
end
end Go.Proofs.YtnhojcldeloigaaGreat
