/-
  Package pages: slots.
-/
import Derived.Test.YtnhojcldeloigaaGreatPagesD
namespace Go.Proofs.YtnhojcldeloigaaGreat
open Go.RowKit Go.Lib Go.Maps
set_option maxRecDepth 100000

/-- The first m sectors of a list. -/
def BG.slotsTo (g : BG) (ls : List (List UInt8)) (l m : Nat) : List UInt8 := ((List.range m).map fun j => g.sec ls (g.listP l + j)).flatten
theorem slots_to (g : BG) (ls : List (List UInt8)) (l : Nat) : g.slots ls l = g.slotsTo ls l g.M := rfl
theorem slotsTo_succ (g : BG) (ls : List (List UInt8)) (l m : Nat) : g.slotsTo ls l (m + 1) = g.slotsTo ls l m ++ g.sec ls (g.listP l + m) := by
  unfold BG.slotsTo
  rw [List.range_succ, List.map_append, List.flatten_append]
  simp
theorem BG.Ok.lp {g : BG} {N : Nat} (ok : g.Ok N) {l : Nat} (hl : l < 2) : g.listP l + g.M ≤ 9 ∧ g.listP l ≤ 5 ∧ 1 ≤ g.listP l := by
  have h1 := ok.ML
  have h2 := ok.L4
  have : l * g.L ≤ 1 * 4 := Nat.mul_le_mul (by omega) h2
  simp only [BG.listP]
  omega
theorem slotsTo_len {g : BG} {N : Nat} {ls : List (List UInt8)} (l m : Nat) (hlen : ∀ i, i < g.n → (g.sec ls i).length = g.z) (ok : g.Ok N) (hl : l < 2) (hm : m ≤ g.M) : (g.slotsTo ls l m).length = m * g.z := by
  have h3 := ok.room
  have hP := ok.lp hl
  unfold BG.slotsTo
  rw [flat_len (z := g.z)]
  · simp
  · intro x hx
    obtain ⟨j, hj, rfl⟩ := List.mem_map.1 hx
    have := List.mem_range.1 hj
    exact hlen _ (by omega)
theorem St.secs {w : World} {F E G : Nat → Prop} {gd gb : Nat} {s : D} {g : BG} {ch : Nat → Option (List UInt8)} (h : St w F E G gd s gb g ch) : ∀ i, i < g.n → (g.sec s.seen i).length = g.z := fun i hi => by
  have hl : g.at_ + i < s.seen.length := by rw [D.seen_length]; have := h.ok.fit; omega
  have : g.sec s.seen i = s.seen[g.at_ + i] := by simp [BG.sec, List.getD, hl]
  rw [this, h.size]
  exact h.dk.lt.2.2.2.2.2.seen _ (List.getElem_mem hl)

/-- At the head of the first loop: what is there so far. -/
def SlInv (w : World) (L : List UInt8) (v : Value) (wr : World) : Prop := wr.ownsRow w.heap.size 5 1 v L.length (b8s L) ∧ Below w.heap.size w wr
theorem SlInv.drewN {w wr : World} {L : List UInt8} {v : Value} (h : SlInv w L v wr) (n : Nat) : SlInv w L v (wr.drewN n) := ⟨h.1, h.2.os, h.2.tape, h.2.output, h.2.size, h.2.block⟩
/-- What slots answers. -/
def SlotsAns (w : World) (k : Nat) (sl : List UInt8) (e : Ending) (w' : World) : Prop :=
  ((okSl k sl ∧ ∃ v, e = .returned v ∧ SlInv w sl v w') ∨
   (¬ okSl k sl ∧ e = .panicked [{ v := .iface 26 (.int .i64 2), recovered := false }])) ∧ Below w.heap.size w w'
section
variable (F E G : Nat → Prop) (gd gb : Nat) (s : D) (g : BG) (ch : Nat → Option (List UInt8)) (w : World) (h : St w F E G gd s gb g ch)
include h
set_option maxHeartbeats 4000000 in
theorem pgslots_any (l : Nat) (hl : l < 2) (ho : s.off = false) : Calls Tryz.prog 52 #[.pointer (some ⟨gb, 0, none⟩), .int .i64 (l : Int)] w (SlotsAns w g.k (g.slots s.seen l)) := by
  have hok := h.ok
  have hz2 := hok.z2
  have hM4 := Nat.le_trans hok.ML hok.L4
  have hn := hok.room
  have hk2 := hok.k2
  have hP := hok.lp hl
  have hsec := h.secs
  obtain ⟨i0, hi0, hy0, hy1, hy2⟩ := info_parts Tryz.info8
  have C0 := Lib.hid (listsectors_any F E G gd gb s g ch w h)
  have CP := Lib.hid (fun w' (k : Below w.heap.size w w') => listplace_any F E G gd gb s g ch w' (h.below k) l (by omega))
  have CR := Lib.hid (fun w' (k : Below w.heap.size w w') (j : Nat) (hj : j < g.M) => pgread_on F E G gd gb s g ch w' (h.below k) (g.listP l + j) ho (by omega))
  have HL := Lib.hid (fun m (hm : m ≤ g.M) => slotsTo_len (ls := s.seen) l m hsec hok hl hm)
  have HC := Lib.hid (slotsTo_succ g s.seen l)
  have I0 : Hid (SlInv w (g.slotsTo s.seen l 0) (.slice none 0 0) w) := ⟨by simpa [b8s, BG.slotsTo] using World.ownsRow_nil _ _ _ _, Below.refl _ _⟩
  rw [slots_to]
  obtain ⟨gm, hb⟩ := h.bk
  have GM := Lib.hid (fun w' (k : Below w.heap.size w w') => (World.cell?_of_block (a := ⟨gb, 4, none⟩) (k.block gb hb.has.lt)).trans hb.cells.2.2.2.2.1)
  generalize g.slotsTo s.seen l = T at I0 HC HL ⊢
  generalize hsq : (fun j => g.sec s.seen (g.listP l + j)) = X at HC CR
  clear h hok hsec hb hsq
  go_enter Tryz.func52, Tryz.ntmps52
  go_wp2_with fail
  refine C0.out.mono ?_
  rintro e w1 ⟨rfl, n, rfl⟩
  have J0 : Hid (SlInv w (T 0) (.slice none 0 0) (w.drewN n)) := I0.out.drewN n
  clear C0 I0
  go_wp2_with fail
  go_loopw [5, 11] (fun u i wr => ∃ (j : Nat) (v : Value), j ≤ g.M ∧ i = .int .i64 j ∧ v = u ∧ Hid (SlInv w (T j) v wr)) (fun _ i _ => g.M - (RowKit.intOf i).toNat)
  case atStart => exact ⟨0, _, Nat.zero_le _, rfl, rfl, J0⟩
  case round =>
    obtain ⟨j, v, hj, rfl, rfl, hrel⟩ := hrel
    clear J0
    by_cases hlt : j < g.M
    · obtain ⟨q1, q2⟩ := hrel.out
      have hs2 := q2.size
      have C1 := Lib.hid (CP.out wr q2)
      have C2 := Lib.hid (CR.out wr q2 j hlt)
      rw [Int.natCast_add] at C2
      have hst := Lib.hid (HC.out j)
      have hl1 := HL.out j (by omega)
      have hjz : j * g.z ≤ 4096 := by
        have := Nat.mul_le_mul (show j ≤ 4 by omega) hz2
        omega
      have i1 : (j : Int) < (g.M : Int) := by omega
      have i2 : (0 : Int) ≤ (j : Int) := by omega
      have Q1 := Lib.hid q1
      have Q2 := Lib.hid q2
      have hTl : (T j).length ≤ 4096 := by omega
      generalize g.sec s.seen (g.listP l + j) = x at C2 hst
      clear q1 q2 hrel hl1 hjz
      go_wp2_with fail
      refine C1.out.mono ?_
      rintro e w2 ⟨rfl, rfl⟩
      clear C1
      go_wp2_with fail
      refine C2.out.mono ?_
      rintro e w2 ⟨A, c, rfl, hx, x1, b2⟩
      have k2 : Only (fun i => wr.heap.size ≤ i) wr w2 := Only.of_below b2
      have o2 : w2.ownsRow w.heap.size 5 1 v (T j).length (b8s (T j)) := owns_only Q1.out k2 (fun i hi hs => by have := (Q1.out.lt i hi).2; omega)
      have O2 := Lib.hid o2
      have X1 := Lib.hid x1
      have HX := Lib.hid hx
      have B2 := Lib.hid (Q2.out.trans (b2.mono hs2))
      have hs3 := B2.out.size
      have hx4 : x.length ≤ 1024 := by omega
      clear o2 x1 hx b2 k2 C2 Q1
      go_wp2_with (at_builtin; go_must (refine wpList_append_bytes _ rfl (.tmp 14) (.tmp 21) 33 rfl w.heap.size 5 i0 Tryz.underlying33 hi0 hy0 hy1 hy2 _ (T j) x rfl O2.out _ _ _ rfl X1.out (by rw [List.length_append]; omega) hs3 ?_))
      intro v3 w3 o3 g3 _
      have R : Hid (SlInv w (T (j + 1)) v3 w3) := by
        rw [show T (j + 1) = T j ++ x from hst.out]
        refine ⟨by rw [List.length_append]; exact o3, B2.out.grown g3 hs3 (fun i hi => (O2.out.lt i hi).1)⟩
      clear o3 g3 O2 X1 B2
      go_wp2
      go_roundw
      case rel => exact ⟨j + 1, _, by omega, by go_num, rfl, R⟩
      case measure => simp [RowKit.intOf]; omega
    · have hje : j = g.M := by omega
      subst hje
      have hTl := HL.out g.M (Nat.le_refl _)
      have hMz : g.M * g.z ≤ 4096 := by
        have := Nat.mul_le_mul hM4 hz2
        omega
      have hT4 : (T g.M).length ≤ 4096 := by omega
      obtain ⟨sl, hsl⟩ : ∃ sl, sl = T g.M := ⟨_, rfl⟩
      rw [← hsl] at hrel hT4
      have HSL := Lib.hid hsl
      clear hsl
      have dl : decide ((g.M : Int) < (g.M : Int)) = false := decide_eq_false (by omega)
      have J1 : Hid (SlInv w sl v wr) := hrel
      obtain ⟨A, c, rfl, hcA⟩ : ∃ A c, v = .slice A sl.length c ∧ (0 < sl.length → ∃ q, A = some ⟨q, 0, none⟩) := by
        rcases id hrel.out.1.2 with ⟨rfl, h0⟩ | ⟨q, cap, cur, rfl, _⟩
        · exact ⟨none, 0, by rw [h0], fun hh => by omega⟩
        · exact ⟨_, _, rfl, fun _ => ⟨q, rfl⟩⟩
      clear hrel CP CR HC HL hTl hMz
      go_wp2_with fail
      go_loopw [27] (fun i wx => ∃ (p : Nat), p ≤ 4 * sl.length ∧ i = .int .i64 p ∧ Hid (SlInv w sl (.slice A sl.length c) wx ∧ ∀ q, q < p → slotOf sl q = 0 ∨ (slotOf sl q ≤ 2 ∧ q < g.k))) (fun i _ => 4 * sl.length - (RowKit.intOf i).toNat)
      case atStart => exact ⟨0, Nat.zero_le _, rfl, Lib.hid ⟨J1.out, fun q hq => absurd hq (by omega)⟩⟩
      case round =>
        obtain ⟨p, hp, rfl, hrel⟩ := hrel
        clear J1
        obtain ⟨K1, hall⟩ := hrel.out
        have c4 := GM.out wr K1.2
        by_cases hlt : p < 4 * sl.length
        · obtain ⟨q, rfl⟩ := hcA (by omega)
          have hp4 : p / 4 < sl.length := by omega
          have hcell := World.ownsRow.cellAt K1.1 (p / 4) (by omega)
          rw [b8s_get hp4] at hcell
          have hsl : slotOf sl p = crumb sl[p / 4] (p % 4) := by simp [slotOf, List.getD, List.getElem?_eq_getElem hp4]
          have C1 := Lib.hid (slotof_any ⟨q, 0, none⟩ sl.length c p sl[p / 4] wr (by omega) hp4 (by
            rw [show ((⟨q, 0, none⟩ : Addr).add (p / 4)) = ⟨q, p / 4, none⟩ by by_cases h0 : p / 4 = 0 <;> simp [Addr.add, h0]]
            exact hcell))
          rw [← hsl] at C1
          have hv4 : slotOf sl p < 4 := by rw [hsl]; exact crumb_lt _ _
          have KD := Lib.hid (fun n => K1.drewN n)
          have HA := Lib.hid hall
          have i1 : (p : Int) < 4 * (sl.length : Int) := by omega
          have HN : Hid (∀ x, slotOf sl p = x → (x = 0 ∨ (x ≤ 2 ∧ p < g.k)) → ∀ q', q' < p + 1 → slotOf sl q' = 0 ∨ (slotOf sl q' ≤ 2 ∧ q' < g.k)) := fun x hx h q' hq => by
            rcases Nat.lt_or_ge q' p with h' | h'
            · exact hall q' h'
            · have : q' = p := by omega
              subst this
              rw [hx]
              exact h
          have HX : Hid (∀ x, slotOf sl p = x → ¬ (x = 0 ∨ (x ≤ 2 ∧ p < g.k)) → ¬ okSl g.k sl) := fun x hx h hh => h (hx ▸ hh p hlt)
          generalize hx : slotOf sl p = x at C1 hv4
          have HN := Lib.hid (HN.out x hx)
          have HX := Lib.hid (HX.out x hx)
          clear hx hcell hsl K1 hall hrel hcA
          by_cases h0 : x = 0
          · subst h0
            have R := Lib.hid (HN.out (.inl rfl))
            go_wp2_with fail
            refine C1.out.mono ?_
            rintro e w2 ⟨rfl, n, rfl⟩
            have c4' : (wr.drewN n).cell? ⟨gb, 4, none⟩ = some (.int .i64 (g.k : Int)) := c4
            clear C1
            go_wp2_with fail
            refine (must_yes 2 _).mono ?_
            rintro e w3 ⟨rfl, rfl⟩
            go_wp2
            go_roundw
            case rel => exact ⟨p + 1, by omega, by go_num, Lib.hid ⟨KD.out _, R.out⟩⟩
            case measure => simp [RowKit.intOf]; omega
          · have d0 : decide ((x : Int) = 0) = false := decide_eq_false (by omega)
            have n0 : ¬ ((x : Int) = 0) := by omega
            have e0 : ((x : Int) == 0) = false := by simpa using n0
            by_cases h2 : x ≤ 2
            · have d2 : decide ((x : Int) ≤ 2) = true := decide_eq_true (by omega)
              by_cases hk : p < g.k
              · have dk : decide (p < g.k) = true := decide_eq_true hk
                skip
                have R := Lib.hid (HN.out (.inr ⟨by omega, by omega⟩))
                go_wp2_with fail
                refine C1.out.mono ?_
                rintro e w2 ⟨rfl, n, rfl⟩
                have c4' : (wr.drewN n).cell? ⟨gb, 4, none⟩ = some (.int .i64 (g.k : Int)) := c4
                clear C1
                go_wp2_with fail
                refine (must_yes 2 _).mono ?_
                rintro e w3 ⟨rfl, rfl⟩
                go_wp2
                go_roundw
                case rel => exact ⟨p + 1, by omega, by go_num, Lib.hid ⟨KD.out _, R.out⟩⟩
                case measure => simp [RowKit.intOf]; omega
              · have dk : decide (p < g.k) = false := decide_eq_false hk
                have R : Hid (∀ n, SlotsAns w g.k sl (.panicked [{ v := .iface 26 (.int .i64 2), recovered := false }]) (wr.drewN n)) := fun n => ⟨.inr ⟨HX.out (by omega), rfl⟩, (KD.out n).2⟩
                go_wp2_with fail
                refine C1.out.mono ?_
                rintro e w2 ⟨rfl, n, rfl⟩
                have c4' : (wr.drewN n).cell? ⟨gb, 4, none⟩ = some (.int .i64 (g.k : Int)) := c4
                clear C1
                go_wp2_with fail
                refine (must_no 2 _).mono ?_
                rintro e w3 ⟨rfl, rfl⟩
                go_wp2
                exact ⟨rfl, by rw [← HSL.out]; exact R.out n⟩
            · have d2 : decide ((x : Int) ≤ 2) = false := decide_eq_false (by omega)
              have R : Hid (∀ n, SlotsAns w g.k sl (.panicked [{ v := .iface 26 (.int .i64 2), recovered := false }]) (wr.drewN n)) := fun n => ⟨.inr ⟨HX.out (by omega), rfl⟩, (KD.out n).2⟩
              go_wp2_with fail
              refine C1.out.mono ?_
              rintro e w2 ⟨rfl, n, rfl⟩
              have c4' : (wr.drewN n).cell? ⟨gb, 4, none⟩ = some (.int .i64 (g.k : Int)) := c4
              clear C1
              go_wp2_with fail
              refine (must_no 2 _).mono ?_
              rintro e w3 ⟨rfl, rfl⟩
              go_wp2
              exact ⟨rfl, by rw [← HSL.out]; exact R.out n⟩
        · have hpe : p = 4 * sl.length := by omega
          subst hpe
          have R : Hid (SlotsAns w g.k sl (.returned (.slice A sl.length c)) wr) := ⟨.inl ⟨hall, _, rfl, K1⟩, K1.2⟩
          have i1 : decide (((4 * sl.length : Nat) : Int) < 4 * (sl.length : Int)) = false := decide_eq_false (by omega)
          clear K1 hall hrel hcA
          go_wp2
          go_ret
          rw [← HSL.out]
          exact R.out
end
end Go.Proofs.YtnhojcldeloigaaGreat
