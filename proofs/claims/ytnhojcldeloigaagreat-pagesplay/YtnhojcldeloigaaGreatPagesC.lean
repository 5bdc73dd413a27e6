/-
  A book in memory, and the disk that it stands on.
-/
import Derived.Test.YtnhojcldeloigaaGreatPagesB
import Derived.Test.YtnhojcldeloigaaGreatDiskM
import Derived.Maps.OwnSet
import Derived.Lib.SlKeysI
import Derived.Deep.QuietTactic
import Derived.BigQuiet
import Derived.StillTailTactics
namespace Go.Proofs.YtnhojcldeloigaaGreat
open Go.RowKit Go.Lib Go.Maps
set_option maxRecDepth 100000

/-- Where a page's bytes lie, as a map's element. -/
def slD (g n c : Nat) : DataW Unit := .agg [.lit (.int .i64 (g : Int)), .lit (.int .i64 (n : Int)), .lit (.int .i64 (c : Int))]
def slR : Value → Option (DataW Unit × List MemPlace)
  | .slice (some ⟨g, 0, none⟩) n c => some (slD g n c, [])
  | .slice none 0 0 => some (.nil, [])
  | _ => none
theorem slR_mk (g n c : Nat) : slR (.slice (some ⟨g, 0, none⟩) n c) = some (slD g n c, []) := rfl
theorem slD_inj {g n c g' n' c' : Nat} (h : slD g n c = slD g' n' c') : g = g' ∧ n = n' ∧ c = c' := by
  simp only [slD, DataW.agg.injEq, List.cons.injEq, DataW.lit.injEq, Lit.int.injEq] at h
  omega
theorem slR_inv {v : Value} {g n c : Nat} {ps : List MemPlace} (h : slR v = some (slD g n c, ps)) : v = .slice (some ⟨g, 0, none⟩) n c := by
  unfold slR at h
  split at h
  · injection h with h
    injection h with h _
    obtain ⟨rfl, rfl, rfl⟩ := slD_inj h
    rfl
  · injection h with h
    injection h with h _
    cases h
  · cases h

/-- A map of pages: what was changed. -/
structure ChAt (w : World) (G : Nat → Prop) (gm k : Nat) (ch : Nat → Option (List UInt8)) : Prop where
  map : ∃ (n : Nat) (D0 : DataW Unit), w.ownsMap Tryz.prog 3 slR gm n D0 ∧ (∀ i : Int, Maps.has D0 (.int .i64 i) = true ↔ ∃ p : Nat, i = (p : Int) ∧ (ch p).isSome = true) ∧
    ∀ p bs, ch p = some bs → ∃ g c, D0.atKey (.int .i64 (p : Int)) .nil = slD g bs.length c ∧ w.ownsRow 0 5 1 (.slice (some ⟨g, 0, none⟩) bs.length c) bs.length (b8s bs) ∧ G g
  lt : ∀ p bs, ch p = some bs → p < k
/-- A book at block gb, over the disk at gd; its map at gm; G: the blocks of it. -/
structure BkAt (w : World) (G : Nat → Prop) (gb gd : Nat) (g : BG) (ch : Nat → Option (List UInt8)) (gm : Nat) : Prop where
  has : Has w gb 67 #[.pointer (some ⟨gd, 0, none⟩), .int .i64 (g.at_ : Int), .int .i64 (g.n : Int), .int .i64 (g.z : Int), .int .i64 (g.k : Int), .map (some gm)]
  ch : ChAt w G gm g.k ch
  gB : G gb
  gM : G gm
  lt : ∀ i, G i → i < w.heap.size
def Bk (w : World) (G : Nat → Prop) (gb gd : Nat) (g : BG) (ch : Nat → Option (List UInt8)) : Prop := ∃ gm, BkAt w G gb gd g ch gm

section
variable {a b w w' : World} {S G G' F E : Nat → Prop} {gm k gb gd : Nat} {g : BG} {ch : Nat → Option (List UInt8)} {s : D}
theorem map_only {n : Nat} {D0 : DataW Unit} (h : a.ownsMap Tryz.prog 3 slR gm n D0) (o : Only S a b) (hn : ¬ S gm) : b.ownsMap Tryz.prog 3 slR gm n D0 := by
  have hlt := h.lt
  obtain ⟨es, clock, hb, r⟩ := h
  exact ⟨es, clock, (o.block gm hlt hn).trans hb, r⟩
theorem ChAt.only (h : ChAt a G gm k ch) (o : Only S a b) (hm : ¬ S gm) (hn : ∀ i, G i → ¬ S i) : ChAt b G gm k ch := by
  obtain ⟨⟨n, D0, h1, h2, h3⟩, h4⟩ := h
  refine ⟨⟨n, D0, map_only h1 o hm, h2, fun p bs hp => ?_⟩, h4⟩
  obtain ⟨g, c, q1, q2, q3⟩ := h3 p bs hp
  exact ⟨g, c, q1, owns_only q2 o (fun i hi => by
    have : g = i := by simpa [Value.ownBlock] using hi
    exact this ▸ hn g q3), q3⟩
theorem ChAt.mono (h : ChAt a G gm k ch) (hG : ∀ i, G i → G' i) : ChAt a G' gm k ch := by
  obtain ⟨⟨n, D0, h1, h2, h3⟩, h4⟩ := h
  refine ⟨⟨n, D0, h1, h2, fun p bs hp => ?_⟩, h4⟩
  obtain ⟨g, c, q1, q2, q3⟩ := h3 p bs hp
  exact ⟨g, c, q1, q2, hG g q3⟩
theorem BkAt.only (h : BkAt a G gb gd g ch gm) (o : Only S a b) (hn : ∀ i, i < a.heap.size → S i → ¬ G i) : BkAt b G gb gd g ch gm :=
  have q : ∀ i, G i → ¬ S i := fun i hi hS => hn i (h.lt i hi) hS hi
  ⟨h.has.only o (q _ h.gB), h.ch.only o (q _ h.gM) q, h.gB, h.gM, fun i hi => Nat.lt_of_lt_of_le (h.lt i hi) o.size⟩
theorem Bk.only (h : Bk a G gb gd g ch) (o : Only S a b) (hn : ∀ i, i < a.heap.size → S i → ¬ G i) : Bk b G gb gd g ch := by
  obtain ⟨gm, h⟩ := h
  exact ⟨gm, h.only o hn⟩
theorem Bk.lt (h : Bk w G gb gd g ch) : gb < w.heap.size ∧ G gb ∧ (∀ i, G i → i < w.heap.size) := by
  obtain ⟨gm, h⟩ := h
  exact ⟨h.has.lt, h.gB, h.lt⟩
theorem BkAt.cells (h : BkAt w G gb gd g ch gm) : w.cell? ⟨gb, 0, none⟩ = some (.pointer (some ⟨gd, 0, none⟩)) ∧ w.cell? ⟨gb, 1, none⟩ = some (.int .i64 (g.at_ : Int)) ∧ w.cell? ⟨gb, 2, none⟩ = some (.int .i64 (g.n : Int)) ∧ w.cell? ⟨gb, 3, none⟩ = some (.int .i64 (g.z : Int)) ∧ w.cell? ⟨gb, 4, none⟩ = some (.int .i64 (g.k : Int)) ∧ w.cell? ⟨gb, 5, none⟩ = some (.map (some gm)) :=
  ⟨h.has.cell 0, h.has.cell 1, h.has.cell 2, h.has.cell 3, h.has.cell 4, h.has.cell 5⟩
end

/-- A disk, and a book on it: F, E: the disk's blocks; G: the book's. -/
structure St (w : World) (F E G : Nat → Prop) (gd : Nat) (s : D) (gb : Nat) (g : BG) (ch : Nat → Option (List UInt8)) : Prop where
  dk : Dk w F E gd s
  bk : Bk w G gb gd g ch
  apart : ∀ i, G i → ¬ F i ∧ ¬ E i
  ok : g.Ok s.kept.length
  size : g.z = s.size
/-- What a call leaves of them. -/
def StStep (w : World) (F E G : Nat → Prop) (gd : Nat) (s : D) (gb : Nat) (g : BG) (ch : Nat → Option (List UInt8)) (w' : World) : Prop :=
  ∃ F' E' G', St w' F' E' G' gd s gb g ch ∧ (∀ i, F' i → F i ∨ w.heap.size ≤ i) ∧ (∀ i, E' i → E i ∨ w.heap.size ≤ i) ∧ (∀ i, G' i → G i ∨ w.heap.size ≤ i) ∧ Only (fun i => F i ∨ G i) w w'
section
variable {a b c w w' w1 w2 : World} {S G F E F' E' G' : Nat → Prop} {gm gb gd : Nat} {g : BG} {ch ch' : Nat → Option (List UInt8)} {s s' : D}
theorem St.only (h : St a F E G gd s gb g ch) (o : Only S a b) (hn : ∀ i, i < a.heap.size → S i → ¬ F i ∧ ¬ E i ∧ ¬ G i) : St b F E G gd s gb g ch :=
  ⟨h.dk.only o (fun i hi hS => ⟨(hn i hi hS).1, (hn i hi hS).2.1⟩), h.bk.only o (fun i hi hS => (hn i hi hS).2.2), h.apart, h.ok, h.size⟩
theorem St.new (h : St a F E G gd s gb g ch) (o : Only (fun _ => False) a b) : St b F E G gd s gb g ch := h.only o (fun _ _ h => h.elim)
theorem St.below (h : St a F E G gd s gb g ch) (o : Below a.heap.size a b) : St b F E G gd s gb g ch := h.new ⟨o.os, o.tape, o.output, o.size, fun i hi _ => o.block i hi⟩
theorem St.same (h : St w F E G gd s gb g ch) : StStep w F E G gd s gb g ch w := ⟨F, E, G, h, fun _ h => .inl h, fun _ h => .inl h, fun _ h => .inl h, Only.refl _ _⟩
theorem St.lts (h : St w F E G gd s gb g ch) : (∀ i, F i → i < w.heap.size) ∧ (∀ i, E i → i < w.heap.size) ∧ (∀ i, G i → i < w.heap.size) := ⟨h.dk.lt.2.2.1, h.dk.lt.2.2.2.1, h.bk.lt.2.2⟩
/-- The disk's step is one of both. -/
theorem St.disk (h : St w F E G gd s gb g ch) (k : DkStep w F E gd s' w') (hl : s'.kept.length = s.kept.length) (hz : s'.size = s.size) : StStep w F E G gd s' gb g ch w' := by
  obtain ⟨F', E', d, f, e, o⟩ := k
  have hl3 := h.lts.2.2
  refine ⟨F', E', G, ⟨d, h.bk.only o (fun i _ hF hG => (h.apart i hG).1 hF), fun i hi => ⟨fun hF => ?_, fun hE => ?_⟩, by rw [hl]; exact h.ok, by rw [hz]; exact h.size⟩, f, e, fun _ h => .inl h, o.mono (fun _ _ h => .inl h)⟩
  · rcases f i hF with q | q
    · exact (h.apart i hi).1 q
    · have := hl3 i hi
      omega
  · rcases e i hE with q | q
    · exact (h.apart i hi).2 q
    · have := hl3 i hi
      omega
theorem StStep.before {w0 : World} (k : Only (fun _ => False) w0 w) (h : StStep w F E G gd s gb g ch w') : StStep w0 F E G gd s gb g ch w' := by
  obtain ⟨F', E', G', d, f, e, q, o⟩ := h
  have hs := k.size
  exact ⟨F', E', G', d, fun i hi => (f i hi).imp id (fun h => Nat.le_trans hs h), fun i hi => (e i hi).imp id (fun h => Nat.le_trans hs h), fun i hi => (q i hi).imp id (fun h => Nat.le_trans hs h), (k.mono (T := fun i => F i ∨ G i) (fun _ _ h => h.elim)).trans o (fun _ _ h => h)⟩
/-- Two steps, one behind the other. -/
theorem StStep.next (h : StStep w F E G gd s gb g ch w1) (k : ∀ F' E' G', St w1 F' E' G' gd s gb g ch → StStep w1 F' E' G' gd s' gb g ch' w2) : StStep w F E G gd s' gb g ch' w2 := by
  obtain ⟨F', E', G', d, f, e, q, o⟩ := h
  obtain ⟨F2, E2, G2, d2, f2, e2, q2, o2⟩ := k F' E' G' d
  have hs := o.size
  refine ⟨F2, E2, G2, d2, fun i hi => ?_, fun i hi => ?_, fun i hi => ?_, o.trans o2 (fun i hi h => ?_)⟩
  · rcases f2 i hi with h | h
    · exact f i h
    · right; omega
  · rcases e2 i hi with h | h
    · exact e i h
    · right; omega
  · rcases q2 i hi with h | h
    · exact q i h
    · right; omega
  · rcases h with h | h
    · rcases f i h with h | h
      · exact .inl h
      · omega
    · rcases q i h with h | h
      · exact .inr h
      · omega
end

theorem D.write_shape (s : D) (i : Int) (b : List UInt8) : (s.write i b).2.kept.length = s.kept.length ∧ (s.write i b).2.size = s.size ∧ ((s.write i b).1 = 0 ∨ (s.write i b).1 = 1 ∨ (s.write i b).1 = 22) := by
  unfold D.write
  split
  · exact ⟨rfl, rfl, .inr (.inr rfl)⟩
  · split
    · exact ⟨rfl, rfl, .inr (.inl rfl)⟩
    · split
      · exact ⟨by simp [D.cut, applyL_length], rfl, .inr (.inr rfl)⟩
      · exact ⟨rfl, rfl, .inl rfl⟩
set_option maxHeartbeats 1000000 in
theorem pgread_raw (F E G : Nat → Prop) (gd gb : Nat) (s : D) (g : BG) (ch : Nat → Option (List UInt8)) (w : World) (dk : Dk w F E gd s) (bk : Bk w G gb gd g ch) (hz : g.z = s.size) (p : Nat) (ho : s.off = false) (hp : g.at_ + p < s.kept.length) : Calls Tryz.prog 41 #[.pointer (some ⟨gb, 0, none⟩), .int .i64 (p : Int)] w fun e w' =>
    ∃ A c, e = .returned (.slice A g.z c) ∧ (g.sec s.seen p).length = g.z ∧ SlIs w' w.heap.size w'.heap.size (.slice A g.z c) (g.sec s.seen p) ∧ Below w.heap.size w w' := by
  have h2 := dk.lt.2.2.2.2.2.most
  have hr : s.read ((g.at_ : Int) + (p : Int)) = (0, g.sec s.seen p) := by
    rw [D.read, if_neg (by rw [ho]; decide), if_pos (by omega)]
    have : ((g.at_ : Int) + (p : Int)).toNat = g.at_ + p := by omega
    rw [this]
    rfl
  have hlen : (g.sec s.seen p).length = g.z := by
    have hl : g.at_ + p < s.seen.length := by rw [D.seen_length]; omega
    have : g.sec s.seen p = s.seen[g.at_ + p] := by simp [BG.sec, List.getD, hl]
    rw [this, hz]
    exact dk.lt.2.2.2.2.2.seen _ (List.getElem_mem hl)
  have C0 := read_any F E gd ((g.at_ : Int) + (p : Int)) s w.drew (dk.only (S := fun _ => False) ((Only.refl _ w).drew) (fun _ _ h => h.elim))
  rw [hr] at C0
  have C : Hid (Calls Tryz.prog 71 #[.pointer (some ⟨gd, 0, none⟩), .int .i64 ((g.at_ : Int) + (p : Int))] w.drew fun e w' => ∃ A c, e = .returned (.tuple #[.slice A g.z c, .int .i64 0]) ∧ SlIs w' w.heap.size w'.heap.size (.slice A g.z c) (g.sec s.seen p) ∧ Below w.heap.size w w') := C0.mono fun e w' hh => by
    obtain ⟨v, rfl, q1, q2⟩ := hh
    obtain ⟨A, c, rfl, q3⟩ := id q1
    rw [hlen] at q1 ⊢
    exact ⟨A, c, rfl, q1, ⟨q2.os, q2.tape, q2.output, q2.size, q2.block⟩⟩
  clear C0 hr
  obtain ⟨gm, h⟩ := bk
  obtain ⟨c0, c1, _, _, _, _⟩ := h.cells
  have e1 : IntKind.i64.wrap ((g.at_ : Int) + (p : Int)) = (g.at_ : Int) + (p : Int) := IntWalk.i64_in _ (by omega)
  generalize g.sec s.seen p = x at C hlen ⊢
  have HL := Lib.hid hlen
  clear h hlen dk hz
  go_enter Tryz.func41, Tryz.ntmps41
  go_upto_region 1 with fail
  go_region_with (first | (go_at_call 71; refine C.out.mono ?_; rintro e w' ⟨A, c, rfl, q1, q2⟩; have Q1 := Lib.hid q1; have Q2 := Lib.hid q2; clear q1 q2))
  all_goals
    go_wp2_with fail
    refine (must_yes 0 _).mono ?_
    rintro e w2 ⟨rfl, rfl⟩
    go_wp2
    go_ret
    exact ⟨_, _, rfl, HL.out, Q1.out, Q2.out⟩

section
variable (F E G : Nat → Prop) (gd gb : Nat) (s : D) (g : BG) (ch : Nat → Option (List UInt8)) (w : World) (h : St w F E G gd s gb g ch)
include h
set_option maxHeartbeats 400000 in
theorem listplace_any (l : Nat) (hl : l ≤ 2) : Calls Tryz.prog 68 #[.pointer (some ⟨gb, 0, none⟩), .int .i64 (l : Int)] w fun e w' => e = .returned (.int .i64 (g.listP l : Int)) ∧ w = w' := by
  have hz1 := h.ok.z1
  have hz2 := h.ok.z2
  have hL := h.ok.L4
  have C := Lib.hid (sectorsfor_any 1024 g.z (by omega) (by omega) (by omega) w)
  obtain ⟨gm, h⟩ := h.bk
  obtain ⟨_, _, _, c3, _, _⟩ := h.cells
  have e : secF 1024 g.z = g.L := rfl
  rw [e] at C
  have hm : l * g.L ≤ 8 := Nat.le_trans (Nat.mul_le_mul hl hL) (by decide)
  have R : Hid (1 + (l : Int) * (g.L : Int) = (g.listP l : Int)) := Lib.hid (by simp [BG.listP])
  obtain ⟨m, hmm⟩ : ∃ m, m = l * g.L := ⟨_, rfl⟩
  have e1 : (l : Int) * (g.L : Int) = (m : Int) := by rw [hmm]; simp
  rw [e1] at R
  rw [← hmm] at hm
  generalize g.listP l = r at R ⊢
  generalize g.L = L at C e1 hL
  clear h e hmm
  go_enter Tryz.func68, Tryz.ntmps68
  go_wp2_with fail
  refine C.out.mono ?_
  rintro e w' ⟨rfl, rfl⟩
  clear C
  go_wp2
  go_ret
  exact ⟨congrArg (fun x => Ending.returned (.int .i64 x)) R.out, rfl⟩

set_option maxHeartbeats 400000 in
theorem slotplace_any (p v : Nat) (hp : p ≤ 1024) (hv : v = 1 ∨ v = 2) : Calls Tryz.prog 76 #[.pointer (some ⟨gb, 0, none⟩), .int .i64 (p : Int), .int .u8 (v : Int)] w fun e w' => e = .returned (.int .i64 (g.slotP p v : Int)) ∧ w = w' := by
  have C := Lib.hid (listplace_any F E G gd gb s g ch w h 2 (by omega))
  have hL := h.ok.L4
  have R : Hid (((g.listP 2 : Int) + 2 * (p : Int)) + ((v - 1 : Nat) : Int) = (g.slotP p v : Int)) := Lib.hid (by simp [BG.slotP, BG.listP])
  have hP : g.listP 2 ≤ 9 := by simp [BG.listP]; omega
  have e1 : IntKind.u8.wrap ((v : Int) - 1) = ((v - 1 : Nat) : Int) := by rw [IntWalk.u8_in _ (by omega)]; omega
  have hv1 : v - 1 < 2 := by omega
  have R2 : Hid (IntKind.i64.wrap ((v - 1 : Nat) : Int) = ((v - 1 : Nat) : Int)) := Lib.hid (IntWalk.i64_in _ (by omega))
  generalize g.listP 2 = L at C R hP
  generalize g.slotP p v = r at R ⊢
  generalize v - 1 = u at R R2 e1 hv1
  clear h hv
  go_enter Tryz.func76, Tryz.ntmps76
  go_wp2_with fail
  refine C.out.mono ?_
  rintro e w' ⟨rfl, rfl⟩
  clear C
  go_wp2
  go_ret
  exact ⟨congrArg (fun x => Ending.returned (.int .i64 x)) R.out, rfl⟩

set_option maxHeartbeats 400000 in
theorem listsectors_any : Calls Tryz.prog 42 #[.pointer (some ⟨gb, 0, none⟩)] w fun e w' => e = .returned (.int .i64 (g.M : Int)) ∧ ∃ n, w' = w.drewN n := by
  have hz1 := h.ok.z1
  have hz2 := h.ok.z2
  have hk := h.ok.k2
  have C : Hid (∀ n, Calls Tryz.prog 72 #[.int .i64 (g.k : Int), .int .i64 (g.z : Int)] (w.drewN n) fun e w' => e = .returned (.int .i64 (g.M : Int)) ∧ w' = w.drewN n) := fun n =>
    (sectorsfor_any g.k g.z (by omega) (by omega) (by omega) (w.drewN n)).mono fun e w' hh => ⟨hh.1, hh.2.symm⟩
  obtain ⟨gm, h⟩ := h.bk
  obtain ⟨_, _, _, c3, c4, _⟩ := h.cells
  clear h
  go_enter Tryz.func42, Tryz.ntmps42
  go_upto_region 1 with fail
  go_quiet (first | (go_at_call 72; exact Calls.quiet_of_same (C.out _)))
  go_wp2
  go_ret
  exact ⟨rfl, _, rfl⟩

theorem pgmusthave_yes (p : Nat) (hp : p < g.k) : Calls Tryz.prog 44 #[.pointer (some ⟨gb, 0, none⟩), .int .i64 (p : Int)] w fun e w' => e = .returned (.tuple #[]) ∧ w = w' := by
  obtain ⟨gm, h⟩ := h.bk
  obtain ⟨_, _, _, _, c4, _⟩ := h.cells
  have d1 : decide ((0 : Int) ≤ (p : Int)) = true := decide_eq_true (by omega)
  have d2 : decide (p < g.k) = true := decide_eq_true (by omega)
  clear h hp
  go_enter Tryz.func44, Tryz.ntmps44
  go_wp2_with fail
  refine (must_yes 1 w).mono ?_
  rintro e w' ⟨rfl, rfl⟩
  go_wp2
  go_end0
  exact ⟨rfl, rfl⟩
theorem pgmusthave_no (i : Int) (hi : ¬ (0 ≤ i ∧ i < (g.k : Int))) : Calls Tryz.prog 44 #[.pointer (some ⟨gb, 0, none⟩), .int .i64 i] w fun e w' => e = .panicked [{ v := .iface 26 (.int .i64 1), recovered := false }] ∧ w = w' := by
  obtain ⟨gm, h⟩ := h.bk
  obtain ⟨_, _, _, _, c4, _⟩ := h.cells
  clear h
  by_cases h0 : 0 ≤ i
  · have d1 : decide (0 ≤ i) = true := decide_eq_true h0
    have d2 : decide (i < (g.k : Int)) = false := decide_eq_false fun h => hi ⟨h0, h⟩
    clear hi h0
    go_enter Tryz.func44, Tryz.ntmps44
    go_wp2_with fail
    refine (must_no 1 w).mono ?_
    rintro e w' ⟨rfl, rfl⟩
    go_wp2
    exact ⟨rfl, rfl, rfl⟩
  · have d1 : decide (0 ≤ i) = false := decide_eq_false h0
    clear hi h0
    go_enter Tryz.func44, Tryz.ntmps44
    go_wp2_with fail
    refine (must_no 1 w).mono ?_
    rintro e w' ⟨rfl, rfl⟩
    go_wp2
    exact ⟨rfl, rfl, rfl⟩

theorem pgread_on (p : Nat) (ho : s.off = false) (hp : p < g.n) : Calls Tryz.prog 41 #[.pointer (some ⟨gb, 0, none⟩), .int .i64 (p : Int)] w fun e w' =>
    ∃ A c, e = .returned (.slice A g.z c) ∧ (g.sec s.seen p).length = g.z ∧ SlIs w' w.heap.size w'.heap.size (.slice A g.z c) (g.sec s.seen p) ∧ Below w.heap.size w w' :=
  pgread_raw F E G gd gb s g ch w h.dk h.bk h.size p ho (by have := h.ok.fit; omega)

set_option maxHeartbeats 1000000 in
theorem pgsync_any (hs : s.Small) : Calls Tryz.prog 48 #[.pointer (some ⟨gb, 0, none⟩)] w fun e w' => e = endsIn s.sync.1 ∧ StStep w F E G gd s.sync.2 gb g ch w' := by
  have C := Lib.hid ((sync_any F E gd s w h.dk hs).mono fun e w' hh => (⟨hh.1, h.disk hh.2 (by unfold D.sync; split <;> simp [D.seen_length]) (by unfold D.sync; split <;> rfl)⟩ : e = .returned (.int .i64 s.sync.1) ∧ StStep w F E G gd s.sync.2 gb g ch w'))
  have h01 : s.sync.1 = 0 ∨ s.sync.1 = 22 := by unfold D.sync; split <;> simp
  obtain ⟨gm, h⟩ := h.bk
  obtain ⟨c0, _, _, _, _, _⟩ := h.cells
  generalize s.sync = r at C h01 ⊢
  obtain ⟨r1, r2⟩ := r
  clear h
  rcases h01 with h01 | h01
  all_goals
    have h01 : r1 = _ := h01
    subst h01
    go_enter Tryz.func48, Tryz.ntmps48
    go_wp2_with fail
    refine C.out.mono ?_
    rintro e w' ⟨rfl, q⟩
    have Q := Lib.hid q
    clear q C
    go_wp2_with fail
  · refine (must_yes 0 w').mono ?_
    rintro e w2 ⟨rfl, rfl⟩
    go_wp2
    go_end0
    exact ⟨rfl, Q.out⟩
  · refine (must_no 22 w').mono ?_
    rintro e w2 ⟨rfl, rfl⟩
    go_wp2
    exact ⟨rfl, rfl, Q.out⟩

set_option maxHeartbeats 1000000 in
theorem pgwrite_any (p lo hi : Nat) (x : Value) (b : List UInt8) (hp : p < g.n) (hx : SlIs w lo hi x b) (hhi : hi ≤ w.heap.size) (hfar : ∀ i, lo ≤ i → i < hi → ¬ F i) (hs : s.Small) :
    Calls Tryz.prog 69 #[.pointer (some ⟨gb, 0, none⟩), .int .i64 (p : Int), x] w fun e w' => e = endsIn (s.write ((g.at_ + p : Nat) : Int) b).1 ∧ StStep w F E G gd (s.write ((g.at_ + p : Nat) : Int) b).2 gb g ch w' := by
  have hok := h.ok
  have h1 := hok.fit
  have h2 := hok.most
  have wsh := D.write_shape s ((g.at_ + p : Nat) : Int) b
  have C := Lib.hid ((write_any F E gd lo hi ((g.at_ + p : Nat) : Int) x b s w.drew (h.dk.only (S := fun _ => False) ((Only.refl _ w).drew) (fun _ _ h => h.elim)) (hx.only (S := fun _ => False) ((Only.refl _ w).drew) hhi (fun _ _ _ h => h)) hhi hfar hs).mono fun e w' hh =>
    (⟨hh.1, ((h.new ((Only.refl (fun _ => False) w).drew)).disk hh.2 wsh.1 wsh.2.1).before ((Only.refl (fun _ => False) w).drew)⟩ : e = .returned (.int .i64 (s.write ((g.at_ + p : Nat) : Int) b).1) ∧ StStep w F E G gd (s.write ((g.at_ + p : Nat) : Int) b).2 gb g ch w'))
  have h01 := wsh.2.2
  obtain ⟨A, c, rfl, _⟩ := hx
  obtain ⟨gm, h⟩ := h.bk
  obtain ⟨c0, c1, _, _, _, _⟩ := h.cells
  have e1 : IntKind.i64.wrap ((g.at_ : Int) + (p : Int)) = ((g.at_ + p : Nat) : Int) := by rw [IntWalk.i64_in _ (by omega)]; omega
  obtain ⟨q, hq⟩ : ∃ q, q = g.at_ + p := ⟨_, rfl⟩
  rw [← hq] at C h01 e1 ⊢
  generalize s.write (q : Int) b = r at C h01 ⊢
  obtain ⟨r1, r2⟩ := r
  clear h wsh hq hfar hok
  rcases h01 with h01 | h01 | h01
  all_goals
    have h01 : r1 = _ := h01
    subst h01
    go_enter Tryz.func69, Tryz.ntmps69
    go_wp2_with fail
    go_still_tail 11, (by kernel_rfl)
    go_wp2_with fail
    refine C.out.mono ?_
    rintro e w' ⟨rfl, q⟩
    have Q := Lib.hid q
    clear q C
    go_wp2_with fail
  · refine (must_yes 0 w').mono ?_
    rintro e w2 ⟨rfl, rfl⟩
    go_wp2
    go_end0
    exact ⟨rfl, Q.out⟩
  · refine (must_no 1 w').mono ?_
    rintro e w2 ⟨rfl, rfl⟩
    go_wp2
    exact ⟨rfl, rfl, Q.out⟩
  · refine (must_no 22 w').mono ?_
    rintro e w2 ⟨rfl, rfl⟩
    go_wp2
    exact ⟨rfl, rfl, Q.out⟩
end
end Go.Proofs.YtnhojcldeloigaaGreat
