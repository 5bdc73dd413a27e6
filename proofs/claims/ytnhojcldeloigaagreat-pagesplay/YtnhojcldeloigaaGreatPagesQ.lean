/-
  Package pages: Write, as its callers see it; Read.
-/
import Derived.Test.YtnhojcldeloigaaGreatPagesP
namespace Go.Proofs.YtnhojcldeloigaaGreat
open Go.RowKit Go.Lib Go.Maps
set_option maxRecDepth 100000

def writeR (g : BG) (i : Int) (b : List UInt8) : Int := if 0 ≤ i ∧ i < (g.k : Int) ∧ b.length = g.z - 16 then 0 else 1
def writeC (g : BG) (ch : Nat → Option (List UInt8)) (i : Int) (b : List UInt8) : Nat → Option (List UInt8) := if writeR g i b = 0 then updCh ch i.toNat b else ch
/-- What Read answers, P being what the disk has. -/
def readR (g : BG) (s : D) (ch : Nat → Option (List UInt8)) (P : Nat → List UInt8) (i : Int) : Int × List UInt8 :=
  if 0 ≤ i ∧ i < (g.k : Int) then (if s.off = true then (22, []) else (0, (ch i.toNat).getD (P i.toNat))) else (1, [])
theorem rdbox_set {w w1 : World} {p2 : Nat} {v : Value} {l : List UInt8} (b2 : Has w p2 33 #[.slice none 0 0]) (k : Only (fun _ => False) w w1) (hsl : SlIs w1 w.heap.size w1.heap.size v l) : RdBox w p2 l (w1.setCell ⟨p2, 0, none⟩ v) := by
  have k2 : Only (fun i => i = p2) w1 (w1.setCell ⟨p2, 0, none⟩ v) := (Only.refl (fun i => i = p2) w1).setCell (p := ⟨p2, 0, none⟩) (fun _ => rfl) _
  have hb2 := b2.only k (fun h => h)
  refine ⟨_, hb2.set 0 _, ?_, (k.mono (T := fun i => i = p2) (fun _ _ h => h.elim)).trans k2 (fun _ _ h => h)⟩
  obtain ⟨A', c', e, q1, q2, q3⟩ := hsl.only k2 (Nat.le_refl _) (fun i h1 _ e => by
    have := b2.lt
    have e : i = p2 := e
    omega)
  exact ⟨A', c', e, q1, q2, q3.wide (Nat.le_refl _) k2.size⟩
theorem Tryz.enterBookRead1 : ∀ args w, (callFunc 55 args).run Tryz.prog w = .ok (.enter 55 args) w := enters_of Tryz.func55 (by kernel_rfl) rfl
section
variable (F E G : Nat → Prop) (gd gb : Nat) (s : D) (g : BG) (ch : Nat → Option (List UInt8)) (w : World) (h : St w F E G gd s gb g ch)
include h
theorem bwrite1_any (p0 p1 p2 lo hi : Nat) (i : Int) (x : Value) (b : List UInt8) (hb : WrBox w F E G gb p0 p1 p2 lo hi i x b) :
    Calls Tryz.prog 43 #[.pointer (some ⟨p0, 0, none⟩), .pointer (some ⟨p1, 0, none⟩), .pointer (some ⟨p2, 0, none⟩)] w fun e w' => e = endsIn (writeR g i b) ∧ StStep w F E G gd s gb g (writeC g ch i b) w' := by
  unfold writeC writeR
  by_cases hi' : 0 ≤ i ∧ i < (g.k : Int)
  · by_cases hl : b.length = g.z - 16
    · rw [if_pos ⟨hi'.1, hi'.2, hl⟩, if_pos rfl]
      have := bwrite1_put F E G gd gb s g ch w h p0 p1 p2 lo hi i x b hb i.toNat (by omega) (by omega) hl
      exact this
    · rw [if_neg (fun h => hl h.2.2), if_neg (by decide)]
      exact bwrite1_long F E G gd gb s g ch w h p0 p1 p2 lo hi i x b hb i.toNat (by omega) (by omega) hl
  · rw [if_neg (fun h => hi' ⟨h.1, h.2.1⟩), if_neg (by decide)]
    exact bwrite1_none F E G gd gb s g ch w h p0 p1 p2 lo hi i x b hb hi'
set_option maxHeartbeats 1000000 in
theorem bookwrite_any (lo hi : Nat) (i : Int) (x : Value) (b : List UInt8) (hx : SlIs w lo hi x b) (hhi : hi ≤ w.heap.size) :
    Calls Tryz.prog 12 #[.pointer (some ⟨gb, 0, none⟩), .int .i64 i, x] w fun e w' => e = .returned (.int .i64 (writeR g i b)) ∧ StStep w F E G gd s gb g (writeC g ch i b) w' := by
  obtain ⟨lF, lE, lG⟩ := h.lts
  obtain ⟨A, c, rfl, _⟩ := id hx
  obtain ⟨W, hW⟩ : ∃ W, W = ((w.alloc (.cells #[.pointer (some ⟨gb, 0, none⟩)] 29)).alloc (.cells #[.int .i64 i] 3)).alloc (.cells #[.slice A b.length c] 33) := ⟨_, rfl⟩
  have sW : W.heap.size = w.heap.size + 3 := by rw [hW]; simp
  have kE : Only (fun _ => False) w (W.alloc errBox) := by rw [hW]; exact ((((Only.refl _ w).alloc _).alloc _).alloc _).alloc _
  have sE : (W.alloc errBox).heap.size = w.heap.size + 4 := by simp [sW]
  have hb : WrBox (W.alloc errBox) F E G gb w.heap.size (w.heap.size + 1) (w.heap.size + 2) lo hi i (.slice A b.length c) b := by
    refine ⟨?_, ?_, ?_, hx.only kE hhi (fun _ _ _ h => h), by omega⟩
    · rw [hW]
      exact (((Has.new w _ _).alloc _).alloc _).alloc _
    · rw [hW]
      have := (((Has.new (w.alloc (.cells #[.pointer (some ⟨gb, 0, none⟩)] 29)) 3 #[.int .i64 i]).alloc (.cells #[.slice A b.length c] 33)).alloc errBox)
      simpa using this
    · rw [hW]
      have := ((Has.new ((w.alloc (.cells #[.pointer (some ⟨gb, 0, none⟩)] 29)).alloc (.cells #[.int .i64 i] 3)) 33 #[.slice A b.length c]).alloc errBox)
      simpa using this
  have C1 := bwrite1_any F E G gd gb s g ch _ (h.new kE) _ _ _ lo hi i _ b hb
  have C := Lib.hid (caught_any 43 _ Tryz.enterBookWrite1 W (writeR g i b) (StStep (W.alloc errBox) F E G gd s gb g (writeC g ch i b)) (C1.mono fun e w' hh => ⟨hh.1, by
    obtain ⟨_, _, _, _, _, _, _, o⟩ := hh.2
    exact (Has.new W 26 #[.int .i64 0]).only o (fun h => by
      rcases h with h | h
      · have := lF _ h
        omega
      · have := lG _ h
        omega), hh.2⟩))
  have R : Hid (∀ w1 w', StStep (W.alloc errBox) F E G gd s gb g (writeC g ch i b) w1 → Only (fun i => i = W.heap.size) w1 w' → StStep w F E G gd s gb g (writeC g ch i b) w') := fun w1 w' hd k2 => hd.caught2 kE lF lE lG ⟨by omega, by omega⟩ k2
  generalize writeR g i b = r at C ⊢
  generalize writeC g ch i b = ch' at C R ⊢
  rw [hW] at C R
  clear hb C1 kE sE sW hW hx h lF lE lG
  go_enter Tryz.func12, Tryz.ntmps12
  go_wp2_with fail
  refine C.out.mono ?_
  rintro e w' ⟨rfl, w1, hd, k2⟩
  have R2 := Lib.hid (R.out w1 w' hd k2)
  clear C R hd k2
  go_wp2
  go_ret
  exact ⟨rfl, R2.out⟩

set_option maxHeartbeats 1000000 in
theorem bread1_none (p0 p1 p2 : Nat) (i : Int) (b0 : Has w p0 29 #[.pointer (some ⟨gb, 0, none⟩)]) (b1 : Has w p1 3 #[.int .i64 i]) (b2 : Has w p2 33 #[.slice none 0 0]) (hi : ¬ (0 ≤ i ∧ i < (g.k : Int))) :
    Calls Tryz.prog 55 #[.pointer (some ⟨p0, 0, none⟩), .pointer (some ⟨p1, 0, none⟩), .pointer (some ⟨p2, 0, none⟩)] w fun e w' => e = endsIn 1 ∧ RdBox w p2 [] w' := by
  have R0 : Hid (RdBox w p2 [] w) := ⟨_, b2, ⟨none, 0, rfl, by simp, by simp, Rd.empty _ _ _ _⟩, Only.refl _ _⟩
  have C := Lib.hid (pgmusthave_no F E G gd gb s g ch w h i hi)
  have c0 := b0.cell 0
  have c1 := b1.cell 0
  simp at c0 c1
  rw [endsIn_no (by decide)]
  clear h b0 b1 b2 hi
  go_enter Tryz.func55, Tryz.ntmps55
  go_wp2_with fail
  refine C.out.mono ?_
  rintro e w' ⟨rfl, rfl⟩
  go_wp2
  exact ⟨rfl, rfl, R0.out⟩
set_option maxHeartbeats 1000000 in
theorem bread1_off (p0 p1 p2 p : Nat) (b0 : Has w p0 29 #[.pointer (some ⟨gb, 0, none⟩)]) (b1 : Has w p1 3 #[.int .i64 (p : Int)]) (b2 : Has w p2 33 #[.slice none 0 0]) (hp : p < g.k) (ho : s.off = true) :
    Calls Tryz.prog 55 #[.pointer (some ⟨p0, 0, none⟩), .pointer (some ⟨p1, 0, none⟩), .pointer (some ⟨p2, 0, none⟩)] w fun e w' => e = endsIn 22 ∧ RdBox w p2 [] w' := by
  have R0 : Hid (RdBox w p2 [] w) := ⟨_, b2, ⟨none, 0, rfl, by simp, by simp, Rd.empty _ _ _ _⟩, Only.refl _ _⟩
  have C := Lib.hid (pgmusthave_yes F E G gd gb s g ch w h p hp)
  have C2 := Lib.hid (off_any F E gd s w h.dk)
  rw [ho] at C2
  have c0 := b0.cell 0
  have c1 := b1.cell 0
  obtain ⟨gm, hb⟩ := h.bk
  have d0 := hb.cells.1
  simp at c0 c1
  rw [endsIn_no (by decide)]
  clear h b0 b1 b2 hp hb ho
  go_enter Tryz.func55, Tryz.ntmps55
  go_wp2_with fail
  refine C.out.mono ?_
  rintro e w' ⟨rfl, rfl⟩
  go_wp2_with fail
  refine C2.out.mono ?_
  rintro e w' ⟨rfl, rfl⟩
  go_wp2_with fail
  refine (must_no 22 _).mono ?_
  rintro e w' ⟨rfl, rfl⟩
  go_wp2
  exact ⟨rfl, rfl, R0.out⟩
set_option maxHeartbeats 2000000 in
theorem bread1_here (p0 p1 p2 p : Nat) (bs : List UInt8) (b0 : Has w p0 29 #[.pointer (some ⟨gb, 0, none⟩)]) (b1 : Has w p1 3 #[.int .i64 (p : Int)]) (b2 : Has w p2 33 #[.slice none 0 0]) (hp : p < g.k) (ho : s.off = false) (hc : ch p = some bs) (hl : bs.length ≤ 4096) :
    Calls Tryz.prog 55 #[.pointer (some ⟨p0, 0, none⟩), .pointer (some ⟨p1, 0, none⟩), .pointer (some ⟨p2, 0, none⟩)] w fun e w' => e = endsIn 0 ∧ RdBox w p2 bs w' := by
  have hk2 := h.ok.k2
  have C := Lib.hid (pgmusthave_yes F E G gd gb s g ch w h p hp)
  have C2 := Lib.hid (off_any F E gd s w h.dk)
  rw [ho] at C2
  have c0 := b0.cell 0
  have c1 := b1.cell 0
  obtain ⟨gm, hb⟩ := h.bk
  have d0 := hb.cells.1
  have d5 := hb.cells.2.2.2.2.2
  obtain ⟨⟨n, D0, hown, hh, hget⟩, hlt⟩ := hb.ch
  obtain ⟨q, cq, e1, o1, hG⟩ := hget p bs hc
  have hhas : Maps.has D0 (.int .i64 (p : Int)) = true := (hh p).2 ⟨p, rfl, by rw [hc]; rfl⟩
  have hrun : ∀ n, (Instr.lookup 65 (.map (some gm)) (.int .i64 (p : Int)) true).run Tryz.prog (w.drewN n) = .ok (.tuple #[.slice (some ⟨q, 0, none⟩) bs.length cq, .bool true]) (w.drewN n) := fun n' => by
    obtain ⟨v, ps, hrun, hv⟩ := World.ownsMap.look_ok (w := w.drewN n') hown (int_keyed Tryz.underlying3) Tryz.underlying65 (zeroPg (w.drewN n')) (zd := .nil) (zp := []) rfl (key := .int .i64 (p : Int)) (kl := .int .i64 (p : Int)) (keyPg p (by omega))
    rw [e1] at hv
    obtain rfl := slR_inv hv
    rw [hhas] at hrun
    exact hrun
  have kd : ∀ n, Only (fun _ => False) w (w.drewN n) := fun n => ⟨rfl, rfl, rfl, Nat.le_refl _, fun _ _ _ => rfl⟩
  have hx := (owns_SlIs o1).narrow
  have hqlt : q < w.heap.size := (o1.lt q rfl).2
  have C3 : Hid (∀ n, Calls Tryz.prog 45 #[.slice (some ⟨q, 0, none⟩) bs.length cq] (w.drewN n) fun e w' => ∃ A c, e = .returned (.slice A bs.length c) ∧ w'.cell? ⟨p2, 0, none⟩ = some (.slice none 0 0) ∧ w'.frozen? ⟨p2, 0, none⟩ = false ∧ RdBox w p2 bs (w'.setCell ⟨p2, 0, none⟩ (.slice A bs.length c))) := by
    intro n'
    refine (cloneb_any _ bs q (q + 1) (w.drewN n') (hx.only (kd n') hqlt (fun _ _ _ h => h)) hqlt (by omega)).mono ?_
    rintro e w' ⟨v, rfl, o3, b3⟩
    have b3 : Below w.heap.size w w' := ⟨b3.os, b3.tape, b3.output, b3.size, b3.block⟩
    have k3 : Only (fun _ => False) w w' := (Only.of_below b3).mono (fun i hi h => by have h : w.heap.size ≤ i := h; omega)
    have hs3 := owns_SlIs o3
    obtain ⟨A, c, rfl, _⟩ := id hs3
    exact ⟨A, c, rfl, (b2.only k3 (fun h => h)).cell 0, (b2.only k3 (fun h => h)).frozen 0, rdbox_set b2 k3 hs3⟩
  simp at c0 c1
  rw [endsIn_zero]
  clear h b0 b1 b2 hp hb ho hown hh hget hlt e1 o1 hG hhas hx hqlt kd hc
  go_enter Tryz.func55, Tryz.ntmps55
  go_wp2_with fail
  refine C.out.mono ?_
  rintro e w' ⟨rfl, rfl⟩
  go_wp2_with fail
  refine C2.out.mono ?_
  rintro e w' ⟨rfl, rfl⟩
  go_wp2_with fail
  refine (must_yes 22 _).mono ?_
  rintro e w' ⟨rfl, rfl⟩
  go_upto_region 16 with fail
  go_quiet (fail)
  go_wp2_with fail
  refine (C3.out _).mono ?_
  rintro e w' ⟨A, c, rfl, f0, f1, rb⟩
  have RB := Lib.hid rb
  clear rb
  go_wp2
  try simp only [Exit.inBlock, Exit.then]
  refine bodyPost_ret (results_none rfl _ _ _) rfl ?_
  exact ⟨rfl, RB.out⟩
set_option maxHeartbeats 2000000 in
theorem bread1_last (p0 p1 p2 p l : Nat) (sl : List UInt8) (P : Nat → List UInt8) (b0 : Has w p0 29 #[.pointer (some ⟨gb, 0, none⟩)]) (b1 : Has w p1 3 #[.int .i64 (p : Int)]) (b2 : Has w p2 33 #[.slice none 0 0]) (hp : p < g.k) (ho : s.off = false) (hr : Rep g s.seen l sl P) (hc : ch p = none) :
    Calls Tryz.prog 55 #[.pointer (some ⟨p0, 0, none⟩), .pointer (some ⟨p1, 0, none⟩), .pointer (some ⟨p2, 0, none⟩)] w fun e w' => e = endsIn 0 ∧ RdBox w p2 (P p) w' := by
  have hk2 := h.ok.k2
  have C := Lib.hid (pgmusthave_yes F E G gd gb s g ch w h p hp)
  have C2 := Lib.hid (off_any F E gd s w h.dk)
  rw [ho] at C2
  have c0 := b0.cell 0
  have c1 := b1.cell 0
  obtain ⟨gm, hb⟩ := h.bk
  have d0 := hb.cells.1
  have d5 := hb.cells.2.2.2.2.2
  obtain ⟨⟨n, D0, hown, hh, hget⟩, hlt⟩ := hb.ch
  have hhas : Maps.has D0 (.int .i64 (p : Int)) = false := by
    cases hx : Maps.has D0 (.int .i64 (p : Int)) with
    | false => rfl
    | true =>
      obtain ⟨p', e, h2⟩ := (hh p).1 hx
      have e : p = p' := by omega
      rw [← e, hc] at h2
      cases h2
  obtain ⟨v0, hv0⟩ : ∃ v0, ∀ n, (Instr.lookup 65 (.map (some gm)) (.int .i64 (p : Int)) true).run Tryz.prog (w.drewN n) = .ok (.tuple #[v0, .bool false]) (w.drewN n) := by
    obtain ⟨es, clock, hbm, Ft, _, rfl⟩ := hown
    refine ⟨.slice none 0 0, fun n' => ?_⟩
    rcases Maps.fit_look (w := w.drewN n') true (int_keyed Tryz.underlying3) Tryz.underlying65 (zeroPg (w.drewN n')) hbm Ft (keyPg p (by omega)) with ⟨hrun, _, hat⟩ | ⟨e0, y, _, _, hrun, hRv, hat, _⟩
    · exact hrun
    · rw [Maps.has_true_of_atKey hat] at hhas
      cases hhas
  have kd : ∀ n, Only (fun _ => False) w (w.drewN n) := fun n => ⟨rfl, rfl, rfl, Nat.le_refl _, fun _ _ _ => rfl⟩
  have C3 : Hid (∀ n, Calls Tryz.prog 56 #[.pointer (some ⟨gb, 0, none⟩), .int .i64 (p : Int)] (w.drewN n) fun e w' => ∃ A c, e = .returned (.slice A (g.z - 16) c) ∧ w'.cell? ⟨p2, 0, none⟩ = some (.slice none 0 0) ∧ w'.frozen? ⟨p2, 0, none⟩ = false ∧ RdBox w p2 (P p) (w'.setCell ⟨p2, 0, none⟩ (.slice A (g.z - 16) c))) := by
    intro n'
    refine (pglasting_any F E G gd gb s g ch (w.drewN n') (h.new (kd n')) l sl P p ho hr hp).mono ?_
    rintro e w' ⟨A, c, rfl, o3, b3⟩
    have b3 : Below w.heap.size w w' := ⟨b3.os, b3.tape, b3.output, b3.size, b3.block⟩
    have k3 : Only (fun _ => False) w w' := (Only.of_below b3).mono (fun i hi h => by have h : w.heap.size ≤ i := h; omega)
    exact ⟨A, c, rfl, (b2.only k3 (fun h => h)).cell 0, (b2.only k3 (fun h => h)).frozen 0, rdbox_set b2 k3 o3⟩
  simp at c0 c1
  rw [endsIn_zero]
  clear h b0 b1 b2 hp hb ho hown hh hget hlt hhas kd hc hr
  go_enter Tryz.func55, Tryz.ntmps55
  go_wp2_with fail
  refine C.out.mono ?_
  rintro e w' ⟨rfl, rfl⟩
  go_wp2_with fail
  refine C2.out.mono ?_
  rintro e w' ⟨rfl, rfl⟩
  go_wp2_with fail
  refine (must_yes 22 _).mono ?_
  rintro e w' ⟨rfl, rfl⟩
  go_upto_region 16 with fail
  go_quiet (fail)
  have c0n : (w.drewN nq).cell? ⟨p0, 0, none⟩ = some (.pointer (some ⟨gb, 0, none⟩)) := c0
  have c1n : (w.drewN nq).cell? ⟨p1, 0, none⟩ = some (.int .i64 (p : Int)) := c1
  go_wp2_with fail
  refine (C3.out _).mono ?_
  rintro e w' ⟨A, c, rfl, f0, f1, rb⟩
  have RB := Lib.hid rb
  clear rb
  go_wp2
  go_end0
  exact ⟨rfl, RB.out⟩
theorem bread1_any (p0 p1 p2 l : Nat) (i : Int) (sl : List UInt8) (P : Nat → List UInt8) (b0 : Has w p0 29 #[.pointer (some ⟨gb, 0, none⟩)]) (b1 : Has w p1 3 #[.int .i64 i]) (b2 : Has w p2 33 #[.slice none 0 0]) (hr : s.off = false → Rep g s.seen l sl P) (hl : ∀ p bs, ch p = some bs → bs.length ≤ 4096) :
    Calls Tryz.prog 55 #[.pointer (some ⟨p0, 0, none⟩), .pointer (some ⟨p1, 0, none⟩), .pointer (some ⟨p2, 0, none⟩)] w fun e w' => e = endsIn (readR g s ch P i).1 ∧ RdBox w p2 (readR g s ch P i).2 w' := by
  unfold readR
  by_cases hi : 0 ≤ i ∧ i < (g.k : Int)
  · rw [if_pos hi]
    obtain ⟨p, rfl⟩ : ∃ p : Nat, i = (p : Int) := ⟨i.toNat, by omega⟩
    cases ho : s.off with
    | true =>
      rw [if_pos rfl]
      exact bread1_off F E G gd gb s g ch w h p0 p1 p2 p b0 b1 b2 (by omega) ho
    | false =>
      rw [if_neg (by decide)]
      cases hc : ch p with
      | some bs =>
        have e : (ch (p : Int).toNat).getD (P (p : Int).toNat) = bs := by simp [hc]
        rw [e]
        exact bread1_here F E G gd gb s g ch w h p0 p1 p2 p bs b0 b1 b2 (by omega) ho hc (hl p bs hc)
      | none =>
        have e : (ch (p : Int).toNat).getD (P (p : Int).toNat) = P p := by simp [hc]
        rw [e]
        exact bread1_last F E G gd gb s g ch w h p0 p1 p2 p l sl P b0 b1 b2 (by omega) ho (hr ho) hc
  · rw [if_neg hi]
    exact bread1_none F E G gd gb s g ch w h p0 p1 p2 i b0 b1 b2 hi
set_option maxHeartbeats 1000000 in
theorem bookread_any (l : Nat) (i : Int) (sl : List UInt8) (P : Nat → List UInt8) (hr : s.off = false → Rep g s.seen l sl P) (hl : ∀ p bs, ch p = some bs → bs.length ≤ 4096) :
    Calls Tryz.prog 26 #[.pointer (some ⟨gb, 0, none⟩), .int .i64 i] w fun e w' => ∃ v, e = .returned (.tuple #[v, .int .i64 (readR g s ch P i).1]) ∧ SlIs w' w.heap.size w'.heap.size v (readR g s ch P i).2 ∧ Below w.heap.size w w' := by
  obtain ⟨lF, lE, lG⟩ := h.lts
  obtain ⟨W, hW⟩ : ∃ W, W = ((w.alloc (.cells #[.pointer (some ⟨gb, 0, none⟩)] 29)).alloc (.cells #[.int .i64 i] 3)).alloc (.cells #[.slice none 0 0] 33) := ⟨_, rfl⟩
  have sW : W.heap.size = w.heap.size + 3 := by rw [hW]; simp
  have kE : Only (fun _ => False) w (W.alloc errBox) := by rw [hW]; exact ((((Only.refl _ w).alloc _).alloc _).alloc _).alloc _
  have sE : (W.alloc errBox).heap.size = w.heap.size + 4 := by simp [sW]
  have b0 : Has (W.alloc errBox) w.heap.size 29 #[.pointer (some ⟨gb, 0, none⟩)] := by
    rw [hW]
    exact (((Has.new w _ _).alloc _).alloc _).alloc _
  have b1 : Has (W.alloc errBox) (w.heap.size + 1) 3 #[.int .i64 i] := by
    rw [hW]
    have := (((Has.new (w.alloc (.cells #[.pointer (some ⟨gb, 0, none⟩)] 29)) 3 #[.int .i64 i]).alloc (.cells #[.slice none 0 0] 33)).alloc errBox)
    simpa using this
  have b2 : Has (W.alloc errBox) (w.heap.size + 2) 33 #[.slice none 0 0] := by
    rw [hW]
    have := ((Has.new ((w.alloc (.cells #[.pointer (some ⟨gb, 0, none⟩)] 29)).alloc (.cells #[.int .i64 i] 3)) 33 #[.slice none 0 0]).alloc errBox)
    simpa using this
  have C1 := bread1_any F E G gd gb s g ch _ (h.new kE) _ _ _ l i sl P b0 b1 b2 hr hl
  have C := Lib.hid (caught_any 55 _ Tryz.enterBookRead1 W (readR g s ch P i).1 (RdBox (W.alloc errBox) (w.heap.size + 2) (readR g s ch P i).2) (C1.mono fun e w' hh => ⟨hh.1, by
    obtain ⟨_, _, _, o⟩ := hh.2
    exact (Has.new W 26 #[.int .i64 0]).only o (fun h => by omega), hh.2⟩))
  have R : Hid (∀ w1 w', RdBox (W.alloc errBox) (w.heap.size + 2) (readR g s ch P i).2 w1 → Only (fun i => i = W.heap.size) w1 w' → ∃ A c, w'.cell? ⟨w.heap.size + 2, 0, none⟩ = some (.slice A (readR g s ch P i).2.length c) ∧ SlIs w' w.heap.size w'.heap.size (.slice A (readR g s ch P i).2.length c) (readR g s ch P i).2 ∧ Below w.heap.size w w') := by
    rintro w1 w' ⟨v, q1, q2, q3⟩ k2
    have := q3.size
    have hv := q2.only k2 (Nat.le_refl _) (fun j h1 _ e => by omega)
    obtain ⟨A, c, rfl, r1, r2, r3⟩ := hv
    have e0 := (q1.only k2 (fun e => by omega)).cell 0
    refine ⟨A, c, by simpa using e0, ⟨A, c, rfl, r1, r2, r3.wide (by omega) k2.size⟩, ?_⟩
    have k3 := (kE.mono (T := fun _ => False) (fun _ _ h => h)).below (B := w.heap.size) (Nat.le_refl _) (fun _ _ h => h)
    exact (k3.trans (q3.below (by omega) (fun j hj e => by omega))).trans (k2.below (by omega) (fun j hj e => by omega))
  generalize readR g s ch P i = r at C R ⊢
  rw [hW] at C R
  clear b0 b1 b2 C1 kE sE sW hW h hr hl lF lE lG
  go_enter Tryz.func26, Tryz.ntmps26
  go_wp2_with fail
  refine C.out.mono ?_
  rintro e w' ⟨rfl, w1, hd, k2⟩
  obtain ⟨A, c, cA, q2, q3⟩ := R.out w1 w' hd k2
  have R2 := Lib.hid q2
  have R3 := Lib.hid q3
  clear C R hd k2 q2 q3
  go_wp2
  go_ret2
  exact ⟨_, rfl, R2.out, R3.out⟩
end
end Go.Proofs.YtnhojcldeloigaaGreat
