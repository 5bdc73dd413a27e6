/-
  DiskPlays: the disk and the law's own beside it; what each act leaves of both.
-/
import Derived.Test.YtddllgbficjaoaaLaw7Same
import Derived.Test.YtddllgbficjaoaaLaw7Known
namespace Go.Proofs.Ytddllgbficjaoaa
open Go.RowKit Go.Lib
set_option maxRecDepth 100000

/-- Both disks, K: the blocks of the law's own and of what it made. -/
structure PIK (w : World) (K : Nat → Prop) (g gp : Nat) (sd sp : D) (wr : World) : Prop where
  live : Live w K g sd wr
  pl : PlAt wr (fun i => (K i ∧ i ≠ gp) ∨ i < w.heap.size) gp sp
  kp : K gp
  low : w.heap.size ≤ gp
section
variable {w wr w' : World} {K K' S : Nat → Prop} {g gp : Nat} {s sd sp s' : D}
theorem RwIs.bound {E : Nat → Prop} {n : Nat} {x : Value} {us : List Value} (h : RwIs w E n x us) : RwIs w (fun i => E i ∧ i < w.heap.size) n x us := h.mono (fun _ hi hE => ⟨hE, hi⟩)
theorem PlAt.bound {E : Nat → Prop} (h : PlAt w E gp s) : PlAt w (fun i => E i ∧ i < w.heap.size) gp s := by
  obtain ⟨gk, ck, gn, cn, wv, hv, kp, h⟩ := h
  exact ⟨gk, ck, gn, cn, wv, hv, kp, ⟨h.has, h.kept, h.now, h.wait, h.keep.bound, h.arm, ⟨h.ek, h.kept.lt⟩, ⟨h.en, h.now.lt⟩, fun i hi => ⟨h.ew i hi, (h.wait.lt i hi).2⟩, fun i hi => h.far i hi.1, h.ok⟩⟩
theorem Live.also (h : Live w K g s wr) (k : Only S wr w') (hS : ∀ i, i < wr.heap.size → S i → K i) (hw : ∀ i, i < w.heap.size → ¬ S i) (hK : ∀ i, K' i → (K i ∨ wr.heap.size ≤ i) ∧ i < w'.heap.size) : Live w K' g s w' := by
  obtain ⟨F, E, d, f, e, b, l⟩ := h
  have dl := d.lt
  refine ⟨F, E, d.only k (fun i hi hs => ⟨fun hF => (f i hF).2 (hS i hi hs), fun hE => (e i hE).2 (hS i hi hs)⟩), fun i hi => ⟨(f i hi).1, fun hk => ?_⟩, fun i hi => ⟨(e i hi).1, fun hk => ?_⟩, b.trans (k.below b.size (fun i hi hs => hw i hi hs)), fun i hi => (hK i hi).2⟩
  · rcases (hK i hk).1 with h | h
    · exact (f i hi).2 h
    · have := dl.2.2.1 i hi
      omega
  · rcases (hK i hk).1 with h | h
    · exact (e i hi).2 h
    · have := dl.2.2.2.1 i hi
      omega
/-- What was made since is the law's. -/
theorem PIK.more (h : PIK w K g gp sd sp wr) (k : Only (fun _ => False) wr w') : PIK w (fun i => K i ∨ (wr.heap.size ≤ i ∧ i < w'.heap.size)) g gp sd sp w' := by
  have hs := k.size
  refine ⟨h.live.more k (fun i hi => ?_), (h.pl.only k (fun _ _ h => h.elim)).mono (fun i hi => ?_) (fun i hi => ?_), .inl h.kp, h.low⟩
  · rcases hi with hi | hi
    · exact ⟨.inl hi, Nat.lt_of_lt_of_le (h.live.klt i hi) hs⟩
    · exact ⟨.inr hi.1, hi.2⟩
  · rcases hi with hi | hi
    · exact .inl ⟨.inl hi.1, hi.2⟩
    · exact .inr hi
  · rcases hi with hi | hi
    · exact hi.2
    · have := h.low
      omega
theorem PIK.new (h : PIK w K g gp sd sp wr) (k : Only (fun _ => False) wr w') : PIK w K g gp sd sp w' := ⟨h.live.new k, h.pl.only k (fun _ _ h => h.elim), h.kp, h.low⟩
theorem PIK.disk (h : PIK w K g gp sd sp wr) (l : Live w K g s' w') (o : Only (fun i => ¬ K i ∧ w.heap.size ≤ i) wr w') : PIK w K g gp s' sp w' :=
  ⟨l, h.pl.only o (fun i _ hi => ⟨fun hE => by
    rcases hE with hE | hE
    · exact hi.1 hE.1
    · omega, fun e => hi.1 (e ▸ h.kp)⟩), h.kp, h.low⟩
theorem PIK.plate (h : PIK w K g gp sd sp wr) (p : PlStep wr (fun i => (K i ∧ i ≠ gp) ∨ i < w.heap.size) gp s' w') : PIK w (fun i => K i ∨ (wr.heap.size ≤ i ∧ i < w'.heap.size)) g gp sd s' w' := by
  have hs := p.2.size
  have hlow := h.low
  have hgl := h.pl.lt
  refine ⟨h.live.also p.2 (fun i _ e => e ▸ h.kp) (fun i hi e => by omega) (fun i hi => ?_), p.1.bound.mono (fun i hi => ?_) (fun i hi => ?_), .inl h.kp, h.low⟩
  · rcases hi with hi | hi
    · exact ⟨.inl hi, Nat.lt_of_lt_of_le (h.live.klt i hi) hs⟩
    · exact ⟨.inr hi.1, hi.2⟩
  · rcases hi with ⟨(hi | hi) | hi, hb⟩
    · exact .inl ⟨.inl hi.1, hi.2⟩
    · exact .inr hi
    · exact .inl ⟨.inr ⟨hi, hb⟩, by omega⟩
  · rcases hi with hi | hi
    · exact hi.2
    · omega
theorem PIK.same (h : PIK w K g gp s s wr) : Calls Try.prog 17 #[.pointer (some ⟨g, 0, none⟩), .pointer (some ⟨gp, 0, none⟩)] wr fun e w' => e = .returned (.bool true) ∧ Below wr.heap.size wr w' := by
  obtain ⟨F, E, d, _⟩ := h.live
  exact same_any F E _ g gp s wr d h.pl
end
section
variable {w : World} {E : Nat → Prop} {gp : Nat} {s : D}
/-- The law's own fields set: for good. -/
theorem PlAt.sync (h : PlAt w E gp s) (ho : s.off = false) : ∃ gn cn wv gk ck, w.cell? ⟨gp, 4, none⟩ = some (.bool false) ∧ w.cell? ⟨gp, 2, none⟩ = some (.slice (some ⟨gn, 0, none⟩) s.kept.length cn) ∧ (w.cell? ⟨gp, 1, none⟩ = some (.slice (some ⟨gk, 0, none⟩) s.kept.length ck) ∧ w.frozen? ⟨gp, 1, none⟩ = false) ∧ (w.cell? ⟨gp, 3, none⟩ = some wv ∧ w.frozen? ⟨gp, 3, none⟩ = false) ∧
    PlStep w E gp { s with kept := s.seen, pend := [] } ((w.setCell ⟨gp, 1, none⟩ (.slice (some ⟨gn, 0, none⟩) s.kept.length cn)).setCell ⟨gp, 3, none⟩ (.slice none 0 0)) := by
  obtain ⟨gk, ck, gn, cn, wv, hv, kp, h⟩ := h
  have e1 := h.has.cell 1
  have e2 := h.has.cell 2
  have e3 := h.has.cell 3
  have e4 := h.has.cell 4
  rw [ho] at e4
  refine ⟨gn, cn, wv, gk, ck, by simpa using e4, by simpa using e2, ⟨by simpa using e1, h.has.frozen 1⟩, ⟨by simpa using e3, h.has.frozen 3⟩, ?_⟩
  have k : Only (fun i => i = gp) w ((w.setCell ⟨gp, 1, none⟩ (.slice (some ⟨gn, 0, none⟩) s.kept.length cn)).setCell ⟨gp, 3, none⟩ (.slice none 0 0)) := ((Only.refl (fun i => i = gp) w).setCell (p := ⟨gp, 1, none⟩) (fun _ => rfl) _).setCell (p := ⟨gp, 3, none⟩) (fun _ => rfl) _
  have hset := (h.has.set 1 (.slice (some ⟨gn, 0, none⟩) s.kept.length cn)).set 3 (.slice none 0 0)
  have hgl := h.has.lt
  have r : StrRow ((w.setCell ⟨gp, 1, none⟩ (.slice (some ⟨gn, 0, none⟩) s.kept.length cn)).setCell ⟨gp, 3, none⟩ (.slice none 0 0)) gn cn s.seen := h.now.only k (fun e => h.far _ h.en e)
  refine ⟨⟨gn, cn, gn, cn, .slice none 0 0, hv, kp, ⟨?_, r, r, World.ownsRow_nil _ _ _ _, (h.keep.only k (fun i _ hE e => h.far i hE e)).mono (fun i _ hi => .inl hi), h.arm, .inl h.en, .inl h.en, (fun i hi => by cases hi), fun i hi => ?_, h.ok.synced⟩⟩, k⟩
  · show Has _ gp _ #[.int .i64 (s.size : Int), .slice (some ⟨gn, 0, none⟩) s.seen.length cn, .slice (some ⟨gn, 0, none⟩) s.seen.length cn, .slice none 0 0, .bool s.off, .int .i64 (s.armed : Int), hv, .int .i64 (s.writes : Int)]
    rw [D.seen_length]
    exact hset
  · rcases hi with hi | hi
    · exact h.far i hi
    · omega
theorem PlAt.off (h : PlAt w E gp s) : w.cell? ⟨gp, 4, none⟩ = some (.bool s.off) ∧ w.frozen? ⟨gp, 4, none⟩ = false := by
  obtain ⟨gk, ck, gn, cn, wv, hv, kp, h⟩ := h
  have e4 := h.has.cell 4
  exact ⟨by simpa using e4, h.has.frozen 4⟩
theorem PlAt.on (h : PlAt w E gp s) : PlStep w E gp { s with off := false } (w.setCell ⟨gp, 4, none⟩ (.bool false)) := by
  obtain ⟨gk, ck, gn, cn, wv, hv, kp, h⟩ := h
  have k : Only (fun i => i = gp) w (w.setCell ⟨gp, 4, none⟩ (.bool false)) := (Only.refl (fun i => i = gp) w).setCell (p := ⟨gp, 4, none⟩) (fun _ => rfl) _
  have hgl := h.has.lt
  exact ⟨⟨gk, ck, gn, cn, wv, hv, kp, ⟨h.has.set 4 _, h.kept.only k (fun e => h.far _ h.ek e), h.now.only k (fun e => h.far _ h.en e), owns_only h.wait k (fun i hi e => h.far _ (h.ew i hi) e), (h.keep.only k (fun i _ hE e => h.far i hE e)).mono (fun i _ hi => .inl hi), h.arm, .inl h.ek, .inl h.en, fun i hi => .inl (h.ew i hi), fun i hi => by
    rcases hi with hi | hi
    · exact h.far i hi
    · omega, h.ok.on⟩⟩, k⟩
theorem PlAt.arm (h : PlAt w E gp s) (n : Int) (keep : List Bool) (x : Value) (hx : RwIs w E keep.length x (bvs keep)) : (∃ a0 hv, w.cell? ⟨gp, 5, none⟩ = some (.int .i64 a0) ∧ w.frozen? ⟨gp, 5, none⟩ = false ∧ w.cell? ⟨gp, 6, none⟩ = some hv ∧ w.frozen? ⟨gp, 6, none⟩ = false) ∧
    ∀ m : Int, m = ((if n < 1 then 1 else n.toNat : Nat) : Int) → PlStep w E gp (s.arm n keep) ((w.setCell ⟨gp, 5, none⟩ (.int .i64 m)).setCell ⟨gp, 6, none⟩ x) := by
  obtain ⟨gk, ck, gn, cn, wv, hv, kp, h⟩ := h
  have e5 := h.has.cell 5
  have e6 := h.has.cell 6
  refine ⟨⟨_, hv, by simpa using e5, h.has.frozen 5, by simpa using e6, h.has.frozen 6⟩, fun m hm => ?_⟩
  have k : Only (fun i => i = gp) w ((w.setCell ⟨gp, 5, none⟩ (.int .i64 m)).setCell ⟨gp, 6, none⟩ x) := ((Only.refl (fun i => i = gp) w).setCell (p := ⟨gp, 5, none⟩) (fun _ => rfl) _).setCell (p := ⟨gp, 6, none⟩) (fun _ => rfl) _
  have hset := (h.has.set 5 (.int .i64 m)).set 6 x
  rw [hm] at hset
  rw [hm] at k ⊢
  have hgl := h.has.lt
  exact ⟨⟨gk, ck, gn, cn, wv, x, keep, ⟨hset, h.kept.only k (fun e => h.far _ h.ek e), h.now.only k (fun e => h.far _ h.en e), owns_only h.wait k (fun i hi e => h.far _ (h.ew i hi) e), (hx.only k (fun i _ hE e => h.far i hE e)).mono (fun i _ hi => .inl hi), fun _ => rfl, .inl h.ek, .inl h.en, fun i hi => .inl (h.ew i hi), fun i hi => by
    rcases hi with hi | hi
    · exact h.far i hi
    · omega, h.ok.arm n keep⟩⟩, k⟩
theorem PlAt.arm2 (h : PlAt w E gp s) (n : Int) (keep : List Bool) (x u : Value) (hx : RwIs w E keep.length x (bvs keep)) : (∃ a0 hv, w.cell? ⟨gp, 5, none⟩ = some (.int .i64 a0) ∧ w.frozen? ⟨gp, 5, none⟩ = false ∧ w.cell? ⟨gp, 6, none⟩ = some hv ∧ w.frozen? ⟨gp, 6, none⟩ = false) ∧
    ∀ m : Int, m = ((if n < 1 then 1 else n.toNat : Nat) : Int) → PlStep w E gp (s.arm n keep) (((w.setCell ⟨gp, 5, none⟩ u).setCell ⟨gp, 5, none⟩ (.int .i64 m)).setCell ⟨gp, 6, none⟩ x) := by
  obtain ⟨gk, ck, gn, cn, wv, hv, kp, h⟩ := h
  have e5 := h.has.cell 5
  have e6 := h.has.cell 6
  refine ⟨⟨_, hv, by simpa using e5, h.has.frozen 5, by simpa using e6, h.has.frozen 6⟩, fun m hm => ?_⟩
  have k : Only (fun i => i = gp) w (((w.setCell ⟨gp, 5, none⟩ u).setCell ⟨gp, 5, none⟩ (.int .i64 m)).setCell ⟨gp, 6, none⟩ x) := (((Only.refl (fun i => i = gp) w).setCell (p := ⟨gp, 5, none⟩) (fun _ => rfl) _).setCell (p := ⟨gp, 5, none⟩) (fun _ => rfl) _).setCell (p := ⟨gp, 6, none⟩) (fun _ => rfl) _
  have hset := ((h.has.set 5 u).set 5 (.int .i64 m)).set 6 x
  rw [hm] at hset
  rw [hm] at k ⊢
  have hgl := h.has.lt
  exact ⟨⟨gk, ck, gn, cn, wv, x, keep, ⟨hset, h.kept.only k (fun e => h.far _ h.ek e), h.now.only k (fun e => h.far _ h.en e), owns_only h.wait k (fun i hi e => h.far _ (h.ew i hi) e), (hx.only k (fun i _ hE e => h.far i hE e)).mono (fun i _ hi => .inl hi), fun _ => rfl, .inl h.ek, .inl h.en, fun i hi => .inl (h.ew i hi), fun i hi => by
    rcases hi with hi | hi
    · exact h.far i hi
    · omega, h.ok.arm n keep⟩⟩, k⟩
end

section
variable {w W : World} {K : Nat → Prop} {g gp : Nat} {s : D}
/-- A twin goes on, the elder one is cut. -/
theorem PIK.twin (h : PIK w K g gp s s W) (hs : s.Small) : Calls Try.prog 16 #[.pointer (some ⟨g, 0, none⟩)] W fun e w2 => e = .returned (.pointer (some ⟨W.heap.size, 0, none⟩)) ∧
    Calls Try.prog 13 #[.pointer (some ⟨g, 0, none⟩), .slice none 0 0] w2 fun e w3 => e = .returned (.tuple #[]) ∧ PIK w K W.heap.size gp s s w3 := by
  obtain ⟨F, E, d, f, e, b, l⟩ := h.live
  have dl := d.lt
  refine (twin_any F E g s W d hs.pend).mono fun ee w2 hh => ⟨hh.1, ?_⟩
  obtain ⟨F', d', f', b'⟩ := hh.2
  have k2 : Only (fun _ => False) W w2 := ⟨b'.os, b'.tape, b'.output, b'.size, fun i hi _ => b'.block i hi⟩
  refine (cut_any F E (fun _ => False) g s [] (.slice none 0 0) w2 (d.only k2 (fun _ _ h => h.elim)) (RwIs.nil _ _) (fun _ h => h.elim) hs.pend).mono fun ee w3 hh => ⟨hh.1, ?_⟩
  obtain ⟨_, _, _, _, _, o⟩ := hh.2
  have hs2 := b'.size
  have hs3 := o.size
  have hb := b.size
  refine ⟨⟨F', E, d'.only o (fun i hi hF => ⟨fun hF' => ?_, fun hE => dl.2.2.2.2.1 i hE hF⟩), fun i hi => ⟨by have := f' i hi; omega, fun hk => by have := l i hk; have := f' i hi; omega⟩, e, (b.trans (k2.below hb (fun _ _ h => h))).trans (o.below (by omega) (fun i hi hF => by have := (f i hF).1; omega)), fun i hi => by have := l i hi; omega⟩, ?_, h.kp, h.low⟩
  · have := dl.2.2.1 i hF
    have := f' i hF'
    omega
  · refine (h.pl.only k2 (fun _ _ h => h.elim)).only o (fun i hi hF => ⟨fun hE => ?_, fun e => (f i hF).2 (e ▸ h.kp)⟩)
    rcases hE with hE | hE
    · exact (f i hF).2 hE.1
    · have := (f i hF).1
      omega
theorem D.write_bounds (s : D) (i : Int) (b : List UInt8) : (s.write i b).2.size = s.size ∧ (s.write i b).2.pend.length ≤ s.pend.length + 1 ∧ (s.write i b).2.writes ≤ s.writes + 1 ∧ (s.write i b).2.armed ≤ s.armed := by
  unfold D.write
  split
  · exact ⟨rfl, by simp, by simp, Nat.le_refl _⟩
  · split
    · exact ⟨rfl, by simp, by simp, Nat.le_refl _⟩
    · split
      · exact ⟨rfl, by simp [D.cut], by simp [D.cut], by simp [D.cut]⟩
      · exact ⟨rfl, by simp [D.put], by simp [D.put], by simp [D.put]⟩
end

/-- Bytes copied to the front of bytes of zero. -/
def cpy (z : Nat) (b : List UInt8) : List UInt8 := b.take z ++ List.replicate (z - b.length) 0
theorem cpy_length (z : Nat) (b : List UInt8) : (cpy z b).length = z := by simp [cpy]; omega
theorem Try.sizeU8 : (Try.prog.info? 5).map (·.size) = some 1 := by kernel_rfl
theorem copy_bytes {w : World} {B gb z : Nat} {b : List UInt8} {A : Option Addr} {c : Nat} {lo hi : Nat} (h : w.ownsRow B 5 1 (.slice (some ⟨gb, 0, none⟩) z z) z (b8s (List.replicate z 0))) (hx : SlIs w lo hi (.slice A b.length c) b) :
    ∃ (m : Int) (w' : World), (Builtin.copy_ #[34, 34] 3 #[.slice (some ⟨gb, 0, none⟩) z z, .slice A b.length c]).run Try.prog w = .ok (.int .i64 m) w' ∧ w'.ownsRow B 5 1 (.slice (some ⟨gb, 0, none⟩) z z) z (b8s (cpy z b)) ∧ Only (fun i => i = gb) w w' := by
  by_cases h0 : Nat.min b.length z = 0
  · refine ⟨0, w, run_copy_none (P := Try.prog) w 34 34 3 5 _ _ _ _ _ _ Try.underlying34 Try.sizeU8 h0, ?_, Only.refl _ _⟩
    have e : cpy z b = List.replicate z 0 := by
      unfold cpy
      rcases Nat.eq_zero_or_pos b.length with hb | hb
      · have := List.eq_nil_of_length_eq_zero hb
        subst this
        simp
      · have h0' : min b.length z = 0 := h0
        have hz : z = 0 := by omega
        subst hz
        simp
    rw [e]
    exact h
  · obtain ⟨A', c', e, _, _, hr⟩ := hx
    injection e with e1 e2 e3
    subst e1 e3
    have hmn : Nat.min b.length z = (b.take z).length := by simp [Nat.min_comm]
    obtain ⟨ad, rfl, _, _, hcl⟩ := hr (by
      rcases Nat.eq_zero_or_pos b.length with hb | hb
      · rw [hb] at h0
        exact absurd (Nat.zero_min z) h0
      · exact hb)
    rcases id h.2 with ⟨hn, _⟩ | ⟨g', cap, cur, he, hB, hg, h1, h2, h3, h4⟩
    · cases hn
    · injection he with e1 _ e3
      injection e1 with e1
      injection e1 with e1
      subst e1 e3
      have hcur : cur.size = z := by simpa using h3
      have hcl' : ∀ j u, (b8s (b.take z))[j]? = some u → w.cell? (ad.add j) = some u := fun j u hu => by
        refine hcl j u ?_
        simp only [b8s, List.getElem?_map, List.getElem?_take] at hu ⊢
        split at hu
        · exact hu
        · simp at hu
      have hrun := run_copy_row (P := Try.prog) w 34 34 3 5 gb 0 z z ad b.length c cur 5 (b8s (b.take z)) Try.underlying34 Try.sizeU8 hg (by rw [b8s_length]; exact hmn.symm) hcl' (by rw [b8s_length, hcur]; simp; omega) (b8s_one _)
      refine ⟨_, _, hrun, ?_, ?_⟩
      · have hrow : (cur.toList.take 0 ++ b8s (b.take z) ++ cur.toList.drop (0 + (b8s (b.take z)).length)) = b8s (cpy z b) := by
          have hcz : cur.toList = b8s (List.replicate z 0) := by
            have := h4
            simp only [Nat.mul_one] at this
            rw [List.take_of_length_le (by simp [hcur])] at this
            exact this
          rw [hcz, List.take_zero, List.nil_append, Nat.zero_add, b8s_length, cpy, b8s_append]
          congr 1
          rw [b8s_replicate, b8s_replicate, List.drop_replicate]
          congr 1
          simp
          omega
        rw [hrow]
        refine ⟨by rw [b8s_length, cpy_length, Nat.mul_one], .inr ⟨gb, z, (b8s (cpy z b)).toArray, rfl, hB, setRow_heap w gb cur _ 5 _ hg, Nat.le_refl _, h2, by simp [b8s_length, cpy_length], ?_⟩⟩
        simp
        rw [List.take_of_length_le (by simp [b8s_length, cpy_length])]
      · exact Only.setRow (Only.refl (fun i => i = gb) w) (fun _ => rfl) _
end Go.Proofs.Ytddllgbficjaoaa
