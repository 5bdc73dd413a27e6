/-
  What the laws of layer 8 ask first: a page that lasts, one that does not.
-/
import Derived.Test.YtnhojcldeloigaaGreatPagesW
namespace Go.Proofs.YtnhojcldeloigaaGreat
open Go.RowKit Go.Lib Go.Maps
set_option maxRecDepth 100000

theorem bnd_commit (g : BG) (s : D) (l : Nat) (sl : List UInt8) (ch : Nat → Option (List UInt8)) : Bnd s (commitD g s l sl ch) (g.k + (g.M + 1)) := by
  unfold commitD
  have hk := keysOf_len ch g.k
  refine bnd_and (n := g.k + (g.M + 1)) (m := 0) ?_ bnd_sync
  split
  · exact ⟨Nat.le_add_right _ _, Nat.le_add_right _ _, Nat.le_refl _⟩
  · have h := bnd_store g s (1 - l) sl ch (keysOf ch g.k)
    exact ⟨by have := h.pend; omega, by have := h.writes; omega, h.armed⟩
theorem bnd_form (g : BG) (s : D) : Bnd s (formD g s) (g.M + 1) := bnd_turn g s _ _
/-- A book lies there, and so much room is left. -/
structure Calm (g : BG) (s : D) (P : Nat → List UInt8) (n : Nat) : Prop where
  rest : Rest g s P
  ok : s.Ok
  armed : s.armed ≤ 9223372036854775807
  writes : s.writes + n ≤ 1000000
theorem Calm.room {g : BG} {s : D} {P : Nat → List UInt8} {n m : Nat} (h : Calm g s P n) (hm : m ≤ n) : s.Room m := ⟨by rw [h.rest.pend]; have := h.writes; simp; omega, h.armed, by have := h.writes; omega⟩
theorem Calm.small {g : BG} {s : D} {P : Nat → List UInt8} {n : Nat} (h : Calm g s P n) : s.Small := (h.room (Nat.le_refl _)).small
theorem Calm.more {g : BG} {s : D} {P : Nat → List UInt8} {n m : Nat} (h : Calm g s P n) (hm : m ≤ n) : Calm g s P m := ⟨h.rest, h.ok, h.armed, by have := h.writes; omega⟩
theorem Calm.there {g : BG} {s : D} {P : Nat → List UInt8} {n : Nat} (h : Calm g s P n) : there s.kept.length (g.at_ : Int) (g.n : Int) = true := by
  have h1 := h.rest.ok.fit
  have h2 := h.rest.ok.room
  have h3 := h.rest.ok.k1
  exact decide_eq_true ⟨by omega, by omega, by omega, by omega⟩
/-- What a new book is on a new disk. -/
theorem format_calm {g : BG} {s : D} {n : Nat} (hok : s.Ok) (ok : g.Ok s.kept.length) (hz : g.z = s.size) (ho : s.off = false) (hp : s.pend = []) (ha : s.armed = 0) (hw : s.writes + n ≤ 999990) :
    (formD g s).1 = 0 ∧ (formD g s).2.armed = 0 ∧ Calm g (formD g s).2 (fun _ => zpage g.z) n ∧ Agree (inBook g) s.kept (formD g s).2.kept := by
  obtain ⟨h1, h2, h3, h4, h5⟩ := format_out hok ok hz ho hp ha
  have hb := bnd_form g s
  have hM := Nat.le_trans ok.ML ok.L4
  exact ⟨h1, h2, ⟨h4, h3, by omega, by have := hb.writes; omega⟩, h5⟩
/-- .. behind a commit that went through. -/
theorem commit_calm {g : BG} {s : D} {l n : Nat} {sl : List UInt8} {P : Nat → List UInt8} {ch : Nat → Option (List UInt8)} (h : Calm g s P (n + 1100)) (hr : Rep g s.kept l sl P) (hch : ∀ p bs, ch p = some bs → bs.length = g.z - 16) :
    ((commitD g s l sl ch).1 = 0 ∧ (commitD g s l sl ch).2.armed ≤ s.armed ∧ Calm g (commitD g s l sl ch).2 (fun p => (ch p).getD (P p)) n ∧ Agree (inBook g) s.kept (commitD g s l sl ch).2.kept) ∨
    ((commitD g s l sl ch).1 = 22 ∧ s.armed ≠ 0 ∧ (commitD g s l sl ch).2.off = true ∧ Calm g { (commitD g s l sl ch).2 with off := false } P n ∧ (commitD g s l sl ch).2.pend = [] ∧ Agree (inBook g) s.kept (commitD g s l sl ch).2.kept) := by
  have hb := bnd_commit g s l sl ch
  have hM := Nat.le_trans h.rest.ok.ML h.rest.ok.L4
  have hk2 := h.rest.ok.k2
  have hw := h.writes
  have ha := h.armed
  rcases commit_out h.ok h.rest.ok h.rest.size h.rest.on h.rest.pend hr hch with ⟨q1, q2, q3, q4, q5⟩ | ⟨q1, q2, q3, q4, q5, q6, q7, q8⟩
  · exact .inl ⟨q1, q4, ⟨q3, q2, by omega, by have := hb.writes; omega⟩, q5⟩
  · refine .inr ⟨q1, q7, q3, ⟨⟨rfl, q4, ?_, ?_, l, sl, q6⟩, ⟨q2.pos, q2.most, q2.small, q2.sect, q2.long, q2.longp⟩, ?_, ?_⟩, q4, q8⟩
    · show g.z = (commitD g s l sl ch).2.size
      rw [q5]
      exact h.rest.size
    · show g.Ok (commitD g s l sl ch).2.kept.length
      rw [← q8.1]
      exact h.rest.ok
    · have := hb.armed
      show (commitD g s l sl ch).2.armed ≤ _
      omega
    · have := hb.writes
      show (commitD g s l sl ch).2.writes + n ≤ _
      omega
theorem Calm.cut {g : BG} {s : D} {P : Nat → List UInt8} {n : Nat} (h : Calm g s P n) (keep : List Bool) : Calm g { s.cut keep with off := false } P n := by
  have e : (s.cut keep).kept = s.kept := by
    show applyL s.kept (chosen s.pend keep) = s.kept
    rw [h.rest.pend]
    rfl
  have ok := h.ok.cut keep
  refine ⟨⟨rfl, rfl, h.rest.size, ?_, ?_⟩, ⟨ok.pos, ok.most, ok.small, ok.sect, ok.long, ok.longp⟩, Nat.zero_le _, h.writes⟩
  · show g.Ok (s.cut keep).kept.length
    rw [e]
    exact h.rest.ok
  · show ∃ l sl, Rep g (s.cut keep).kept l sl P
    rw [e]
    exact h.rest.rep

def g80 : BG := ⟨0, 40, 64, 3⟩
def k80 : D := D.new 64 (List.replicate 40 (List.replicate 64 0))
theorem k80_ok : k80.Ok := D.new_ok (by simp) (by simp) (by decide) (fun y hy => by rw [(List.mem_replicate.1 hy).2]; simp)
theorem g80_ok : g80.Ok k80.kept.length := ⟨by decide, by decide, by decide, by decide, by decide, by show 0 + 40 ≤ (List.replicate 40 (List.replicate 64 (0 : UInt8))).length; simp, by show (List.replicate 40 (List.replicate 64 (0 : UInt8))).length ≤ 16384; simp⟩
def x9 : List UInt8 := (List.replicate 48 (0 : UInt8)).set 0 9
theorem x9_w0 (ch : Nat → Option (List UInt8)) : writeR g80 0 x9 = 0 ∧ writeC g80 ch 0 x9 = updCh ch 0 x9 := ⟨rfl, rfl⟩
theorem x9_w1 (ch : Nat → Option (List UInt8)) : writeR g80 1 x9 = 0 ∧ writeC g80 ch 1 x9 = updCh ch 1 x9 := ⟨rfl, rfl⟩
theorem x9_len {i : Nat} : ∀ p bs, updCh noCh i x9 p = some bs → bs.length = g80.z - 16 := fun p bs h => by
  unfold updCh at h
  split at h
  · injection h with h
    rw [← h]
    rfl
  · cases h
theorem keys9 : keysOf (updCh noCh 1 x9) g80.k = [1] := rfl

set_option maxHeartbeats 4000000 in
theorem known8_any (w : World) : Calls Tryz.prog 7 #[] w fun e w' => e = .returned (.bool true) ∧ Below w.heap.size w w' := by
  have C1 := Lib.hid (disknew_any 40 64 w)
  obtain ⟨f1, f2, f3, _⟩ := format_calm (g := g80) (s := k80) (n := 900000) k80_ok g80_ok rfl rfl rfl rfl (by decide)
  obtain ⟨s1, hs1⟩ : ∃ s1, s1 = (formD g80 k80).2 := ⟨_, rfl⟩
  rw [← hs1] at f2 f3
  have F1 := Lib.hid f1
  have F3 := Lib.hid f3
  have F2 := Lib.hid f2
  have HS1 := Lib.hid hs1
  clear f1 f2 f3 hs1
  go_enter Tryz.func7, Tryz.ntmps7
  go_wp2_with fail
  refine C1.out.mono ?_
  intro e w1 hN
  rw [NewAns, if_pos (by decide)] at hN
  obtain ⟨v, rfl, hm⟩ := hN
  obtain ⟨gd, rfl, L0, _⟩ := Live.made (Below.refl w.heap.size w) (K := fun _ => False) (fun _ h => h.elim) hm
  have L1 : Live w (fun _ => False) gd k80 w1 := L0
  have CF := Lib.hid (lv_format w w1 _ gd k80 L1 0 40 3 rfl (by decide) (by decide) (by decide) ⟨by decide, by decide, by decide⟩ F1.out)
  clear hm C1 L0 L1
  go_wp2_with fail
  refine CF.out.mono ?_
  rintro e w2 ⟨gb, rfl, l2, _⟩
  have l2 : Lv w (fun _ => False) gd (formD g80 k80).2 gb g80 noCh w2 := l2
  rw [← HS1.out] at l2
  have CMo := lv_most w w2 _ gd s1 gb g80 noCh l2
  have L2 := Lib.hid l2
  have CMo := Lib.hid (show Calls Tryz.prog 13 #[.pointer (some ⟨gb, 0, none⟩)] w2 fun e w' => e = .returned (.int .i64 3) ∧ w2 = w' from CMo)
  clear CF l2 F1 HS1
  go_wp2_with fail
  refine CMo.out.mono ?_
  rintro e w2' ⟨rfl, rfl⟩
  obtain ⟨w3, hmk0, o3, k3, z3⟩ := make_bytes 48 (by omega) w2
  obtain ⟨o4, k4⟩ := set_byte o3 0 9
  have hf0 := World.ownsRow.frozenAt o3 0
  have hc0 : w3.cell? ⟨w2.heap.size, 0, none⟩ = some (.int .u8 0) := World.ownsRow.cellAt o3 0 (by omega)
  have hmk : (Instr.makeSlice 33 (.int .i64 48) (.int .i64 48)).run Tryz.prog w2 = .ok (.slice (some ⟨w2.heap.size, 0, none⟩) 48 48) w3 := hmk0
  have L4' := ((L2.out.more (K' := fun i => i = w2.heap.size) k3 (fun i hi => ⟨.inr (by omega), by omega⟩)).far k4 (fun i _ h => h) (fun i hi e => by have := L2.out.low.size; omega))
  have X4 : Hid (SlIs (w3.setCell ⟨w2.heap.size, 0, none⟩ (.int .u8 9)) w2.heap.size (w2.heap.size + 1) (.slice (some ⟨w2.heap.size, 0, none⟩) 48 48) x9) := (owns_SlIs (bs := x9) o4).narrow
  have hs4 : w2.heap.size + 1 ≤ (w3.setCell ⟨w2.heap.size, 0, none⟩ (.int .u8 9)).heap.size := L4'.klt _ rfl
  have L4 : Hid (Lv w (fun i => i = w2.heap.size) gd s1 gb g80 noCh (w3.setCell ⟨w2.heap.size, 0, none⟩ (.int .u8 9))) := L4'
  clear CMo L2 o3 k3 o4 k4 hmk0 L4'
  go_upto_region 45 with fail
  generalize w3.setCell ⟨w2.heap.size, 0, none⟩ (.int .u8 9) = w4 at X4 L4 hs4 ⊢
  clear hmk hc0 hf0 z3 w3
  have CW1 := lv_write w w4 _ gd s1 gb g80 noCh L4.out w2.heap.size (w2.heap.size + 1) 0 _ x9 X4.out hs4
  rw [(x9_w0 noCh).1, (x9_w0 noCh).2] at CW1
  have CW1 := Lib.hid CW1
  refine CW1.out.mono ?_
  rintro e w5 ⟨rfl, l5, o5⟩
  have X5 := Lib.hid (X4.out.only o5 hs4 (fun i h1 h2 h => h.1 (by omega)))
  have hs5 := Nat.le_trans hs4 o5.size
  obtain ⟨lt, sl, hr⟩ := F3.out.rest.rep
  have hrs : Rep g80 s1.seen lt sl (fun _ => zpage g80.z) := by rw [F3.out.rest.seen]; exact hr
  have CC := lv_commit w w5 _ gd s1 gb g80 (updCh noCh 0 x9) l5 lt sl _ hrs F3.out.rest.on (F3.out.room (by omega)) x9_len
  obtain ⟨q1, q3⟩ : (commitD g80 s1 lt sl (updCh noCh 0 x9)).1 = 0 ∧ Calm g80 (commitD g80 s1 lt sl (updCh noCh 0 x9)).2 (fun p => (updCh noCh 0 x9 p).getD (zpage g80.z)) 800000 := by
    rcases commit_calm (n := 800000) (F3.out.more (by omega)) hr (x9_len (i := 0)) with ⟨q1, q2, q3, _⟩ | ⟨_, q2, _⟩
    · exact ⟨q1, q3⟩
    · exact absurd F2.out q2
  obtain ⟨s2, hs2⟩ : ∃ s2, s2 = (commitD g80 s1 lt sl (updCh noCh 0 x9)).2 := ⟨_, rfl⟩
  rw [q1, ← hs2, show leftCh 0 (updCh noCh 0 x9) = noCh from rfl] at CC
  rw [← hs2] at q3
  have M2 := Lib.hid q3
  have CC := Lib.hid CC
  clear q1 q3 hs2 hr hrs l5 o5 CW1 X4 L4 F3 F2
  go_wp2_with fail
  refine CC.out.mono ?_
  rintro e w6 ⟨rfl, l6, o6⟩
  have X6 := Lib.hid (X5.out.only o6 hs5 (fun i h1 h2 h => h.1 (by omega)))
  have hs6 := Nat.le_trans hs5 o6.size
  have CW2 := lv_write w w6 _ gd s2 gb g80 noCh l6 w2.heap.size (w2.heap.size + 1) 1 _ x9 X6.out hs6
  rw [(x9_w1 noCh).1, (x9_w1 noCh).2] at CW2
  have CW2 := Lib.hid CW2
  clear CC l6 o6 X5
  go_wp2_with fail
  refine CW2.out.mono ?_
  rintro e w7 ⟨rfl, l7, o7⟩
  have hl7 := l7.low.size
  have CCh := lv_changed w w7 _ gd s2 gb g80 (updCh noCh 1 x9) l7
  rw [keys9] at CCh
  have CCh := Lib.hid CCh
  have L7 := Lib.hid l7
  clear l7 o7 CW2 X6
  go_wp2_with fail
  refine CCh.out.mono ?_
  rintro e w8 ⟨v, rfl, ov, b8⟩
  obtain ⟨qc, cc, rfl⟩ : ∃ qc cc, v = .slice (some ⟨qc, 0, none⟩) 1 cc := by
    rcases id ov.2 with ⟨_, h0⟩ | ⟨q, cap, cur, rfl, _⟩
    · simp at h0
    · exact ⟨q, cap, rfl⟩
  have hqc := ov.lt qc rfl
  have hc8 : w8.cell? ⟨qc, 0, none⟩ = some (.int .i64 1) := World.ownsRow.cellAt ov 0 (by decide)
  have kb8 : Only (fun _ => False) w7 w8 := (Only.of_below b8).mono (fun i hi h => by have h : w7.heap.size ≤ i := h; omega)
  have hN8 := Has.new w8 4 #[.bool true, .bool true, .bool true]
  have ka8 : Only (fun _ => False) w8 (w8.alloc (.cells #[.bool true, .bool true, .bool true] 4)) := (Only.refl _ w8).alloc _
  have L8 : Lv w (fun i => i = qc ∨ i = w8.heap.size) gd s2 gb g80 (updCh noCh 1 x9) (w8.alloc (.cells #[.bool true, .bool true, .bool true] 4)) := L7.out.more (kb8.trans ka8 (fun _ _ h => h)) (fun i hi => by
    have hs8 := b8.size
    have ha8 := ka8.size
    have hl8 := hN8.lt
    rcases hi with hi | hi
    · exact ⟨.inr (by omega), by omega⟩
    · exact ⟨.inr (by omega), by omega⟩)
  have hc8a : (w8.alloc (.cells #[.bool true, .bool true, .bool true] 4)).cell? ⟨qc, 0, none⟩ = some (.int .i64 1) := (ka8.cell (p := ⟨qc, 0, none⟩) hqc.2 (fun h => h)).trans hc8
  have hqa : qc < (w8.alloc (.cells #[.bool true, .bool true, .bool true] 4)).heap.size := by have := ka8.size; omega
  have CX := Lib.hid (lv_cut w _ _ gd s2 gb g80 _ L8 [true, true, true] (.slice (some ⟨w8.heap.size, 0, none⟩) 3 3) (fun i => i = w8.heap.size) ⟨_, _, rfl, fun _ => ⟨⟨w8.heap.size, 0, none⟩, rfl, rfl, hN8.lt, fun j u hu => by
    rw [show ((⟨w8.heap.size, 0, none⟩ : Addr).add j) = ⟨w8.heap.size, j, none⟩ by by_cases h0 : j = 0 <;> simp [Addr.add, h0]]
    rw [hN8.cell j]
    simpa [bvs] using hu⟩⟩ (fun i hi => .inl (.inr hi)) M2.out.small)
  clear ov b8 hc8 kb8 ka8 hN8 L8 L7 CCh
  go_wp2_with fail
  refine CX.out.mono ?_
  rintro e w9 ⟨rfl, l9, o9⟩
  have hc9 := (o9.cell (p := ⟨qc, 0, none⟩) hqa (fun h => h.1 (.inl rfl))).trans hc8a
  have hq9 := Nat.lt_of_lt_of_le hqa o9.size
  have CN := Lib.hid (lv_on w w9 _ gd _ gb g80 _ l9)
  have M3 := M2.out.cut [true, true, true]
  clear CX l9 o9 hc8a hqa M2
  go_wp2_with fail
  refine CN.out.mono ?_
  rintro e w10 ⟨rfl, l10, o10⟩
  have hc10 := (o10.cell (p := ⟨qc, 0, none⟩) hq9 (fun h => h.1 (.inl rfl))).trans hc9
  have hq10 := Nat.lt_of_lt_of_le hq9 o10.size
  obtain ⟨s3, hs3⟩ : ∃ s3 : D, s3 = { s2.cut [true, true, true] with off := false } := ⟨_, rfl⟩
  rw [← hs3] at l10 M3
  obtain ⟨e3, ok3⟩ := open_of_rest M3.rest
  have e3 : openG s3 0 40 = g80 := e3
  rw [← e3] at ok3
  have CO := lv_open w w10 _ gd s3 l10.live 0 40 M3.rest.on (by rw [← M3.rest.size]; decide) M3.there ok3
  rw [e3] at CO
  have CO := Lib.hid CO
  have HM3 := Lib.hid M3
  clear CN l10 o10 hc9 hq9 hs3 e3 ok3 M3
  go_wp2_with fail
  refine CO.out.mono ?_
  rintro e w11 ⟨gb2, rfl, l11, b11⟩
  have hc11 := (World.cell?_of_block (a := ⟨qc, 0, none⟩) (b11.block qc hq10)).trans hc10
  have hq11 := Nat.lt_of_lt_of_le hq10 b11.size
  obtain ⟨l3, sl3, hr3⟩ := HM3.out.rest.rep
  have hrs3 : Rep g80 s3.seen l3 sl3 (fun p => (updCh noCh 0 x9 p).getD (zpage g80.z)) := by rw [HM3.out.rest.seen]; exact hr3
  have CR0 := lv_read w w11 _ gd s3 gb2 g80 noCh l11 0 l3 sl3 _ (fun _ => hrs3) (fun p bs hp => by cases hp)
  rw [show readR g80 s3 noCh (fun p => (updCh noCh 0 x9 p).getD (zpage g80.z)) 0 = (0, x9) by unfold readR; rw [if_pos (by decide), if_neg (by rw [HM3.out.rest.on]; decide)]; rfl] at CR0
  have CR0 := Lib.hid CR0
  have L11 := Lib.hid l11
  have HR3 := Lib.hid hrs3
  clear CO l11 b11 hc10 hq10 hr3 hrs3
  go_wp2_with fail
  refine CR0.out.mono ?_
  rintro e w12 ⟨A12, c12, rfl, x12, b12⟩
  have l12 := L11.out.below b12
  have hc12 := (World.cell?_of_block (a := ⟨qc, 0, none⟩) (b12.block qc hq11)).trans hc11
  have hq12 := Nat.lt_of_lt_of_le hq11 b12.size
  have CR1 := lv_read w w12 _ gd s3 gb2 g80 noCh l12 1 l3 sl3 _ (fun _ => HR3.out) (fun p bs hp => by cases hp)
  rw [show readR g80 s3 noCh (fun p => (updCh noCh 0 x9 p).getD (zpage g80.z)) 1 = (0, List.replicate 48 0) by unfold readR; rw [if_pos (by decide), if_neg (by rw [HM3.out.rest.on]; decide)]; rfl] at CR1
  have CR1 := Lib.hid CR1
  have L12 := Lib.hid l12
  have X12 := Lib.hid x12
  clear CR0 L11 l12 x12 b12 hc11 hq11 HR3
  go_wp2_with fail
  refine CR1.out.mono ?_
  rintro e w13 ⟨A13, c13, rfl, x13, b13⟩
  have l13 := L12.out.below b13
  have hc13 := (World.cell?_of_block (a := ⟨qc, 0, none⟩) (b13.block qc hq12)).trans hc12
  have x12 := X12.out.only (Only.of_below b13) (Nat.le_refl _) (fun i h1 h2 h => by have h : w12.heap.size ≤ i := h; omega)
  obtain ⟨ad12, rfl, _, _, e12⟩ := x12.head (by decide)
  obtain ⟨ad13, rfl, _, _, e13⟩ := x13.head (by decide)
  have e12' : w13.cell? ad12 = some (.int .u8 9) := e12
  have e13' : w13.cell? ad13 = some (.int .u8 0) := e13
  have CP := lv_pages w w13 _ gd s3 gb2 g80 noCh l13
  have CP := Lib.hid (show Calls Tryz.prog 24 #[.pointer (some ⟨gb2, 0, none⟩)] w13 fun e w' => e = .returned (.int .i64 3) ∧ w13 = w' from CP)
  have R := Lib.hid l13.low
  clear CR1 L12 l13 x12 x13 b13 hc12 hq12 X12 e12 e13 HM3
  go_wp2_with fail
  refine CP.out.mono ?_
  rintro e w14 ⟨rfl, rfl⟩
  go_wp2
  go_ret
  exact ⟨rfl, R.out⟩
end Go.Proofs.YtnhojcldeloigaaGreat
