/-
  The law's own disk: rows that are made anew at every change; power.
-/
import Derived.Test.YtddllgbficjaoaaDiskO
namespace Go.Proofs.Ytddllgbficjaoaa
open Go.RowKit Go.Lib
set_option maxRecDepth 100000

theorem Try.infoLate : (Try.prog.info? 70).map (fun i => (i.zero, i.size, i.bytes)) = some (some (.agg #[.int .i64 0, .string ⟨#[]⟩]), 2, 24) := by kernel_rfl

section
variable {P : Program} (w : World)
/-- append of a row, nil too, onto a row of one's own. -/
theorem run_append_rows (base : Nat) (t ty e : TypeId) (i : TypeInfo) (z : Value) (size bytes : Nat) (ht : P.underlying t = some (.slice e)) (hi : P.info? e = some i) (hz : i.zero = some z)
    (hsize : i.size = size) (hby : i.bytes = bytes) (hzs : z.cells.size = size) (hsz : 0 < size) (v : Value) (n : Nat) (xs : List Value) (hown : w.ownsRow base e size v n xs)
    (E : Nat → Prop) (m : Nat) (x : Value) (news : List Value) (hx : RwIs w E m x news) (hl : news.length = m * size) (h1 : ∀ u ∈ news, u.oneCell' = true) (h63 : n + m ≤ maxLen) (hbytes : (n + m) * bytes ≤ 140737488355328) (hbase : base ≤ w.heap.size) :
    ∃ v' w', (Builtin.append_ #[t, t] ty #[v, x]).run P w = .ok v' w' ∧ w'.ownsRow base e size v' (n + m) (xs ++ news) ∧ w.grownBy w' v.ownBlock ∧ (v'.ownBlock = v.ownBlock ∨ v'.ownBlock = some w.heap.size) := by
  obtain ⟨A, c, rfl, hr⟩ := hx
  cases A with
  | none =>
    have h0 : news = [] := by
      rcases Nat.eq_zero_or_pos news.length with h0 | h0
      · exact List.eq_nil_of_length_eq_zero h0
      · obtain ⟨ad, h, _⟩ := hr h0
        cases h
    subst h0
    have hm : m = 0 := by
      rcases Nat.eq_zero_or_pos m with h | h
      · exact h
      · have := Nat.mul_pos h hsz
        simp at hl
        omega
    subst hm
    exact ⟨v, w, run_append_nothing w base t ty e i size ht hi v _ _ hown c, by simpa using hown, ⟨rfl, rfl, rfl, Nat.le_refl _, fun _ _ _ => rfl⟩, .inl rfl⟩
  | some ad =>
    have hcells : ∀ j u, news[j]? = some u → w.cell? (ad.add j) = some u := fun j u hu => by
      obtain ⟨ad', h, _, _, hc⟩ := hr (by have := (List.getElem?_eq_some_iff.1 hu).1; omega)
      injection h with h
      subst h
      exact hc j u hu
    obtain ⟨v', w', h1', h2, h3, _, h5⟩ := run_append_own_at (P := P) w base t ty e i z size bytes ht hi hz hsize hby hzs hsz v n xs hown ad m c news hl hcells h1 h63 hbytes hbase
    exact ⟨v', w', h1', h2, h3, h5⟩
theorem wpList_append_rows {ops : Array Oper} {rest : List Oper} {o : Oper} {a : Act} {Q : Exit → Act → World → Prop} (hgd : o.guard = none) (s x : Operand) (t : TypeId)
    (ho : o.op = .call { callee := .builtin .append, args := #[s, x], argTypes := #[t, t] })
    (base : Nat) (e : TypeId) (i : TypeInfo) (z : Value) (size bytes : Nat) (ht : P.underlying t = some (.slice e)) (hi : P.info? e = some i) (hz : i.zero = some z)
    (hsize : i.size = size) (hby : i.bytes = bytes) (hzs : z.cells.size = size) (hsz : 0 < size) (v : Value) (n : Nat) (xs : List Value) (hs : a.eval s = v) (hown : w.ownsRow base e size v n xs)
    (E : Nat → Prop) (m : Nat) (xv : Value) (news : List Value) (hxv : a.eval x = xv) (hx : RwIs w E m xv news) (hl : news.length = m * size) (h1 : ∀ u ∈ news, u.oneCell' = true) (h63 : n + m ≤ maxLen) (hbytes : (n + m) * bytes ≤ 140737488355328) (hbase : base ≤ w.heap.size)
    (h : ∀ v' w', w'.ownsRow base e size v' (n + m) (xs ++ news) → w.grownBy w' v.ownBlock → (v'.ownBlock = v.ownBlock ∨ v'.ownBlock = some w.heap.size) → wpList P ops Q rest (a.put o.dst v') w') :
    wpList P ops Q (o :: rest) a w := by
  refine wpList_plain hgd fun K hK => ?_
  obtain ⟨v', w', hr, h2, h3, h4⟩ := run_append_rows (P := P) w base t o.type e i z size bytes ht hi hz hsize hby hzs hsz v n xs hown E m xv news hx hl h1 h63 hbytes hbase
  unfold Oper.wp execOp
  simp only [ho, resolve, invoke, builtin, Sem.run_bind, Sem.run_pure, Result.andThen_ok, List.map_toArray, List.map_cons, List.map_nil, hs, hxv, hr]
  exact hK _ _ (h v' w' h2 h3 h4)
end

/-- A row of nothing, laid by a literal. -/
theorem lit_none (w : World) (e : TypeId) (size : Nat) : (w.alloc (.cells #[] e)).ownsRow w.heap.size e size (.slice (some ⟨w.heap.size, 0, none⟩) 0 0) 0 [] := World.ownsRow_made w #[] 0 (Nat.le_refl _) (by simp [maxLen]) (by simp)

/-- The law's disk at block gp; its rows lie in E. -/
structure PlA (w : World) (E : Nat → Prop) (gp : Nat) (s : D) (gk ck gn cn : Nat) (wv hv : Value) (kp : List Bool) : Prop where
  has : Has w gp 33 #[.int .i64 (s.size : Int), .slice (some ⟨gk, 0, none⟩) s.kept.length ck, .slice (some ⟨gn, 0, none⟩) s.kept.length cn, wv, .bool s.off, .int .i64 (s.armed : Int), hv, .int .i64 (s.writes : Int)]
  kept : StrRow w gk ck s.kept
  now : StrRow w gn cn s.seen
  wait : w.ownsRow 0 70 2 wv s.pend.length (wvs s.pend)
  keep : RwIs w E kp.length hv (bvs kp)
  arm : 0 < s.armed → kp = s.keep
  ek : E gk
  en : E gn
  ew : ∀ i, wv.ownBlock = some i → E i
  far : ∀ i, E i → i ≠ gp
  ok : s.Ok
def PlAt (w : World) (E : Nat → Prop) (gp : Nat) (s : D) : Prop := ∃ gk ck gn cn wv hv kp, PlA w E gp s gk ck gn cn wv hv kp
/-- What a call leaves of it. -/
def PlStep (w : World) (E : Nat → Prop) (gp : Nat) (s : D) (w' : World) : Prop := PlAt w' (fun i => E i ∨ w.heap.size ≤ i) gp s ∧ Only (fun i => i = gp) w w'
section
variable {w w' : World} {E E' S : Nat → Prop} {gp : Nat} {s : D} {gk ck gn cn : Nat} {wv hv : Value} {kp : List Bool}
theorem PlA.only (h : PlA w E gp s gk ck gn cn wv hv kp) (k : Only S w w') (hS : ∀ i, i < w.heap.size → S i → ¬ E i ∧ i ≠ gp) : PlA w' E gp s gk ck gn cn wv hv kp :=
  ⟨h.has.only k (fun e => (hS _ h.has.lt e).2 rfl), h.kept.only k (fun e => (hS _ h.kept.lt e).1 h.ek), h.now.only k (fun e => (hS _ h.now.lt e).1 h.en), owns_only h.wait k (fun i hi e => (hS i (h.wait.lt i hi).2 e).1 (h.ew i hi)), h.keep.only k (fun i hi hE e => (hS i hi e).1 hE), h.arm, h.ek, h.en, h.ew, h.far, h.ok⟩
theorem PlA.mono (h : PlA w E gp s gk ck gn cn wv hv kp) (hE : ∀ i, E i → E' i) (hf : ∀ i, E' i → i ≠ gp) : PlA w E' gp s gk ck gn cn wv hv kp :=
  ⟨h.has, h.kept, h.now, h.wait, h.keep.mono (fun i _ hi => hE i hi), h.arm, hE _ h.ek, hE _ h.en, fun i hi => hE i (h.ew i hi), hf, h.ok⟩
theorem PlAt.only (h : PlAt w E gp s) (k : Only S w w') (hS : ∀ i, i < w.heap.size → S i → ¬ E i ∧ i ≠ gp) : PlAt w' E gp s := by
  obtain ⟨gk, ck, gn, cn, wv, hv, kp, h⟩ := h
  exact ⟨gk, ck, gn, cn, wv, hv, kp, h.only k hS⟩
theorem PlAt.mono (h : PlAt w E gp s) (hE : ∀ i, E i → E' i) (hf : ∀ i, E' i → i ≠ gp) : PlAt w E' gp s := by
  obtain ⟨gk, ck, gn, cn, wv, hv, kp, h⟩ := h
  exact ⟨gk, ck, gn, cn, wv, hv, kp, h.mono hE hf⟩
theorem PlAt.lt (h : PlAt w E gp s) : gp < w.heap.size := by
  obtain ⟨gk, ck, gn, cn, wv, hv, kp, h⟩ := h
  exact h.has.lt
theorem wait_cells {gq n c j : Nat} {l : List (Nat × List UInt8)} (h : w.ownsRow 0 70 2 (.slice (some ⟨gq, 0, none⟩) n c) n (wvs l)) (hj : j < l.length) :
    w.cell? ⟨gq, j * 2, none⟩ = some (.int .i64 (l[j].1 : Int)) ∧ w.cell? ⟨gq, j * 2 + 1, none⟩ = some (.string (strOf l[j].2)) := by
  have hl := h.1
  rw [wvs_length] at hl
  obtain ⟨a, b⟩ := wvs_get l j hj
  exact ⟨(World.ownsRow.cellAt h (j * 2) (by omega)).trans a, (World.ownsRow.cellAt h (j * 2 + 1) (by omega)).trans b⟩
/-- Behind power's last store. -/
theorem PlA.cut {wr : World} {g' c' : Nat} (h : PlA w E gp s gk ck gn cn wv hv kp) (keep : List Bool) (hr : StrRow wr g' c' (applyL s.kept (chosen s.pend keep))) (hg : w.heap.size ≤ g') (k : Only (fun _ => False) w wr) :
    PlStep w E gp (s.cut keep) (((((wr.setCell ⟨gp, 1, none⟩ (.slice (some ⟨g', 0, none⟩) s.kept.length c')).setCell ⟨gp, 2, none⟩ (.slice (some ⟨g', 0, none⟩) s.kept.length c')).setCell ⟨gp, 3, none⟩ (.slice none 0 0)).setCell ⟨gp, 4, none⟩ (.bool true)).setCell ⟨gp, 5, none⟩ (.int .i64 0)) := by
  have hb := h.has.only k (fun h => h)
  have hset := ((((hb.set 1 (.slice (some ⟨g', 0, none⟩) s.kept.length c')).set 2 (.slice (some ⟨g', 0, none⟩) s.kept.length c')).set 3 (.slice none 0 0)).set 4 (.bool true)).set 5 (.int .i64 0)
  obtain ⟨w5, hw5⟩ : ∃ w5, w5 = ((((wr.setCell ⟨gp, 1, none⟩ (.slice (some ⟨g', 0, none⟩) s.kept.length c')).setCell ⟨gp, 2, none⟩ (.slice (some ⟨g', 0, none⟩) s.kept.length c')).setCell ⟨gp, 3, none⟩ (.slice none 0 0)).setCell ⟨gp, 4, none⟩ (.bool true)).setCell ⟨gp, 5, none⟩ (.int .i64 0) := ⟨_, rfl⟩
  have k1 : Only (fun i => i = gp) wr w5 := by
    rw [hw5]
    exact (((((Only.refl (fun i => i = gp) wr).setCell (p := ⟨gp, 1, none⟩) (fun _ => rfl) _).setCell (p := ⟨gp, 2, none⟩) (fun _ => rfl) _).setCell (p := ⟨gp, 3, none⟩) (fun _ => rfl) _).setCell (p := ⟨gp, 4, none⟩) (fun _ => rfl) _).setCell (p := ⟨gp, 5, none⟩) (fun _ => rfl) _
  rw [← hw5] at hset ⊢
  have hgl := h.has.lt
  have hl : (s.cut keep).kept.length = s.kept.length := applyL_length _ _
  have r1 : StrRow w5 g' c' (s.cut keep).kept := hr.only k1 (fun e => by omega)
  refine ⟨⟨g', c', g', c', .slice none 0 0, hv, kp, ⟨?_, r1, r1, World.ownsRow_nil _ _ _ _, ?_, fun h => absurd h (by simp [D.cut]), .inr hg, .inr hg, (fun i hi => by cases hi), fun i hi => ?_, h.ok.cut keep⟩⟩, (k.mono (T := fun i => i = gp) (fun _ _ h => h.elim)).trans k1 (fun _ _ h => h)⟩
  · rw [hl]
    exact hset
  · exact ((h.keep.only k (fun _ _ _ h => h)).only k1 (fun i _ hE e => h.far i hE e)).mono (fun i _ hi => .inl hi)
  · rcases hi with hi | hi
    · exact h.far i hi
    · omega
end

set_option maxHeartbeats 4000000 in
theorem power_any (E X : Nat → Prop) (gp : Nat) (s : D) (keep : List Bool) (x : Value) (w : World) (h : PlAt w E gp s) (hx : RwIs w X keep.length x (bvs keep)) (hn : s.pend.length ≤ 1000000) :
    Calls Try.prog 14 #[.pointer (some ⟨gp, 0, none⟩), x] w fun e w' => e = .returned (.tuple #[]) ∧ PlStep w E gp (s.cut keep) w' := by
  obtain ⟨gk, ck, gn, cn, wv, hv, kp, h⟩ := h
  obtain ⟨Ax, cx, rfl, hr⟩ := hx
  obtain ⟨A, c, hpe, _⟩ := RwIs.of_own h.wait
  obtain ⟨Ah, ch, hhe, _⟩ := h.keep
  obtain ⟨i0, hi0, hz0, hz1, hz2⟩ := info_parts Try.infoStr
  have c1 := h.has.cell 1
  simp at c1
  have hgl := h.has.lt
  have hm := h.ok.most
  have rK : Hid (RwIs (w.alloc (.cells #[] 9)) (fun i => i = gk) s.kept.length (.slice (some ⟨gk, 0, none⟩) s.kept.length ck) (svs s.kept)) := by
    have := (RwIs.of_own h.kept).only ((Only.refl (fun _ => False) w).alloc (.cells #[] 9)) (fun _ _ _ h => h)
    exact this.mono (fun i _ hi => by simpa [Value.ownBlock] using hi.symm)
  have hown := Lib.hid (lit_none w 9 1)
  have HH := Lib.hid h
  have HE := Lib.hid hpe
  have HHE := Lib.hid hhe
  have HR := Lib.hid hr
  have hpos := h.ok.pos
  clear h hpe hr hhe
  go_enter Try.func14, Try.ntmps14
  go_wp2_with (at_builtin; refine wpList_append_rows _ rfl (.tmp 6) (.tmp 10) 29 rfl w.heap.size 9 i0 _ 1 16 Try.underlying29 hi0 hz0 hz1 hz2 rfl (by omega) _ _ _ rfl hown.out _ _ _ _ rfl rK.out (by simp [svs_length]) (svs_one _) (by simp [maxLen]; omega) (by omega) (by simp) ?_)
  intro v' w1 o1 g1 _
  have b1 : Below w.heap.size w w1 := ((Below.refl _ w).alloc (Nat.le_refl _) _).grown g1 (by simp) (by simp [Value.ownBlock])
  obtain ⟨g', c', rfl, _⟩ := owns_some o1 hpos
  have hgb := (o1.lt g' rfl).1
  have k1 : Only (fun _ => False) w w1 := ⟨b1.os, b1.tape, b1.output, b1.size, fun i hi _ => b1.block i hi⟩
  have I0 : Hid (StrRow w1 g' c' (applyL s.kept (chosen (s.pend.take 0) keep)) ∧ Only (fun _ => False) w w1) := by
    have e : chosen (s.pend.take 0) keep = [] := by simp [chosen]
    rw [e]
    exact ⟨owns_base o1 (Nat.zero_le _), k1⟩
  clear o1 g1 b1 k1 hown rK
  go_wp2
  go_loopw [5] (fun u wr => ∃ j : Nat, j ≤ s.pend.length ∧ u = .int .i64 j ∧ Hid (StrRow wr g' c' (applyL s.kept (chosen (s.pend.take j) keep)) ∧ Only (fun _ => False) w wr)) (fun u _ => s.pend.length - (RowKit.intOf u).toNat)
  case atStart => exact ⟨0, Nat.zero_le _, rfl, I0⟩
  case round =>
    obtain ⟨j, hj, rfl, hrel⟩ := hrel
    clear I0
    obtain ⟨rj, kj⟩ := hrel.out
    have hh := HH.out
    have hgj := hh.has.only kj (fun h => h)
    have cG := hgj.cell 3
    rw [HE.out] at cG
    simp at cG
    by_cases hlt : j < s.pend.length
    · obtain ⟨gq, c'', he, _⟩ := owns_some hh.wait (by omega)
      have hpe := HE.out
      rw [he] at hpe
      injection hpe with e1 _ e2
      subst e1 e2
      have hpend := owns_only hh.wait kj (fun _ _ h => h)
      rw [he] at hpend
      obtain ⟨q0, q1⟩ := wait_cells hpend hlt
      have hsec := hh.ok.sect _ (List.getElem_mem hlt)
      have hcs := chosen_step s.pend keep j hlt
      have hll : (applyL s.kept (chosen (s.pend.take j) keep)).length = s.kept.length := applyL_length _ _
      have hone := fun a b => applyL_one s.kept (chosen (s.pend.take j) keep) a b
      have hpj : s.pend[j] = (s.pend[j].1, s.pend[j].2) := rfl
      rw [hpj] at hcs
      obtain ⟨i, hi⟩ : ∃ i, i = s.pend[j].1 := ⟨_, rfl⟩
      obtain ⟨z, hz⟩ : ∃ z, z = s.pend[j].2 := ⟨_, rfl⟩
      rw [← hi] at q0 hsec
      rw [← hz] at q1
      rw [← hi, ← hz] at hcs
      obtain ⟨y, cK⟩ : ∃ y, wr.cell? ⟨g', i, none⟩ = some (.string (strOf y)) := ⟨_, rj.cell (i := i) (by omega)⟩
      have fK := rj.frozen i
      have i0' : (0 : Int) ≤ (j : Int) := by omega
      have i1 : (j : Int) < (s.pend.length : Int) := by omega
      have i2 : (0 : Int) ≤ (i : Int) := by omega
      have i3 : (i : Int) < (s.kept.length : Int) := by omega
      by_cases hjk : j < keep.length
      · obtain ⟨ad, rfl, hKa, hal, hac⟩ := HR.out (by rw [bvs_length]; omega)
        have cB : wr.cell? (ad.add j) = some (.bool keep[j]) := (kj.cell (by rw [addr_block]; exact hal) (fun h => h)).trans (hac j _ (bvs_get hjk))
        have dk : decide (j < keep.length) = true := decide_eq_true hjk
        have k1 : (j : Int) < (keep.length : Int) := by omega
        cases hb : keep[j] with
        | true =>
          rw [if_pos (by rw [List.getElem?_eq_getElem hjk, hb])] at hcs
          have KS : Hid (StrRow (wr.setCell ⟨g', i, none⟩ (.string (strOf z))).drew g' c' (applyL s.kept (chosen (s.pend.take (j + 1)) keep)) ∧ Only (fun _ => False) w (wr.setCell ⟨g', i, none⟩ (.string (strOf z))).drew) := by
            rw [hcs, hone]
            exact ⟨rj.set i z, (kj.setCell (p := ⟨g', i, none⟩) (fun h => by simp at h; omega) _).drew⟩
          rw [hb] at cB
          clear rj kj hh hgj he hpend hll hi hz hrel hsec hcs hone hpj hb hac
          go_upto_region 5 with fail
          go_still_tail 18, (by kernel_rfl)
          go_wp2
          go_roundw
          case rel => exact ⟨j + 1, by omega, by go_num, KS⟩
          case measure => simp [RowKit.intOf]; omega
        | false =>
          rw [if_neg (by rw [List.getElem?_eq_getElem hjk, hb]; decide), List.append_nil] at hcs
          have KS : Hid (StrRow wr g' c' (applyL s.kept (chosen (s.pend.take (j + 1)) keep)) ∧ Only (fun _ => False) w wr) := by
            rw [hcs]
            exact ⟨rj, kj⟩
          rw [hb] at cB
          clear rj kj hh hgj he hpend hll hi hz hrel hsec hcs hone hpj hb hac
          go_wp2
          go_roundw
          case rel => exact ⟨j + 1, by omega, by go_num, KS⟩
          case measure => simp [RowKit.intOf]; omega
      · have dk : decide (j < keep.length) = false := decide_eq_false hjk
        rw [if_neg (by rw [List.getElem?_eq_none (by omega)]; decide), List.append_nil] at hcs
        have KS : Hid (StrRow wr g' c' (applyL s.kept (chosen (s.pend.take (j + 1)) keep)) ∧ Only (fun _ => False) w wr) := by
          rw [hcs]
          exact ⟨rj, kj⟩
        clear rj kj hh hgj he hpend hll hi hz hrel hsec hcs hone hpj
        go_wp2
        go_roundw
        case rel => exact ⟨j + 1, by omega, by go_num, KS⟩
        case measure => simp [RowKit.intOf]; omega
    · have hje : j = s.pend.length := by omega
      subst hje
      rw [List.take_length] at rj
      have R := Lib.hid (hh.cut keep rj hgb kj)
      have g1 := hgj.cell 1
      have f1 := hgj.frozen 1
      have g2 := hgj.cell 2
      have f2 := hgj.frozen 2
      have f3 := hgj.frozen 3
      have g4 := hgj.cell 4
      have f4 := hgj.frozen 4
      have g5 := hgj.cell 5
      have f5 := hgj.frozen 5
      simp at g1 g2 g4 g5
      clear rj kj hh hgj hrel
      go_wp2
      go_end0
      exact ⟨rfl, R.out⟩
end Go.Proofs.Ytddllgbficjaoaa
