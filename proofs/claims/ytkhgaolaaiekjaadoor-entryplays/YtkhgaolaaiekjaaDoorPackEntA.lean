/-
  Package entry: where a name is: the order told by strings.Compare; what halving finds (pure).
  Package entry: place.
  A number of zeros appended to nil ('append([]E(nil), make([]E, n)...)'), whatever the elements; nothing of the program is used here.
  Package entry: the library's Grow, Concat over rows of entries.
-/
import Derived.Test.YtkhgaolaaiekjaaDoorEntI
import Derived.Lib.Bytealg
import Derived.Test.YtkhgaolaaiekjaaDoorPackEntC
import Derived.Test.YtkhgaolaaiekjaaDoorShelf
import Derived.Test.YtkhgaolaaiekjaaDoorStill
import Derived.Deep.RegionLawGrows
namespace Go.Proofs.YtkhgaolaaiekjaaDoor
open Go.RowKit Go.Lib
set_option maxRecDepth 100000

theorem u8_lt_irrefl (c : UInt8) : ¬ c < c := by
  rw [UInt8.lt_iff_toNat_lt]
  omega
theorem cmp_self : ∀ a : List UInt8, Lib.compareBytes a a = 0
  | [] => rfl
  | c :: l => by
    unfold Lib.compareBytes
    rw [if_neg (u8_lt_irrefl c), if_neg (u8_lt_irrefl c)]
    exact cmp_self l
theorem cmp_ahd : ∀ {a b : List UInt8}, Ahd a b → Lib.compareBytes a b = -1
  | _, [], h => by simp [Ahd, Op.bytesLess] at h
  | [], _ :: _, _ => rfl
  | x :: a, y :: b, h => by
    simp only [Ahd, Op.bytesLess, Bool.or_eq_true, Bool.and_eq_true, decide_eq_true_eq, beq_iff_eq] at h
    unfold Lib.compareBytes
    rcases h with h | ⟨rfl, h⟩
    · rw [if_pos h]
    · rw [if_neg (u8_lt_irrefl x), if_neg (u8_lt_irrefl x)]
      exact cmp_ahd h
theorem cmp_behind : ∀ {a b : List UInt8}, Ahd b a → Lib.compareBytes a b = 1
  | [], _, h => by
    rename_i b
    cases b <;> simp [Ahd, Op.bytesLess] at h
  | _ :: _, [], _ => rfl
  | x :: a, y :: b, h => by
    simp only [Ahd, Op.bytesLess, Bool.or_eq_true, Bool.and_eq_true, decide_eq_true_eq, beq_iff_eq] at h
    unfold Lib.compareBytes
    rcases h with h | ⟨rfl, h⟩
    · rw [if_neg (by
        rw [UInt8.lt_iff_toNat_lt] at h ⊢
        omega), if_pos h]
    · rw [if_neg (u8_lt_irrefl y), if_neg (u8_lt_irrefl y)]
      exact cmp_behind h
theorem cmp_lt {a b : List UInt8} : decide (Lib.compareBytes a b < 0) = decide (Ahd a b) := by
  by_cases h : Ahd a b
  · rw [cmp_ahd h, decide_eq_true h]
    rfl
  · rw [decide_eq_false h]
    by_cases k : Ahd b a
    · rw [cmp_behind k]
      rfl
    · rw [ahd_total h k, cmp_self]
      rfl
theorem cmp_zero {a b : List UInt8} : (Lib.compareBytes a b == 0) = decide (a = b) := by
  by_cases h : a = b
  · rw [h, cmp_self, decide_eq_true rfl]
    rfl
  · rw [decide_eq_false h]
    by_cases k : Ahd a b
    · rw [cmp_ahd k]
      rfl
    · by_cases k2 : Ahd b a
      · rw [cmp_behind k2]
        rfl
      · exact absurd (ahd_total k k2) h

theorem pos_behind {l : List En} {n : List UInt8} (h : Rise l) {k : Nat} (hk : k < l.length) (hp : posE n l ≤ k) : ¬ Ahd l[k].n n := by
  refine h.behind _ ?_
  rw [List.mem_drop_iff_getElem]
  exact ⟨k - posE n l, by omega, by congr 1; omega⟩
/-- What a step of the halving tells. -/
theorem half_step {l : List En} {n : List UInt8} (h : Rise l) {k : Nat} (hk : k < l.length) : (Ahd l[k].n n → k + 1 ≤ posE n l) ∧ (¬ Ahd l[k].n n → posE n l ≤ k) := by
  constructor
  · intro ha
    by_cases hp : posE n l ≤ k
    · exact absurd ha (pos_behind h hk hp)
    · omega
  · intro ha
    by_cases hp : k < posE n l
    · exact absurd (pos_ahead hp hk) ha
    · omega
end Go.Proofs.YtkhgaolaaiekjaaDoor
namespace Go.Proofs.YtkhgaolaaiekjaaDoor
open Go.RowKit Go.Lib
set_option maxRecDepth 100000

theorem place1_any (x : En) (n : List UInt8) (w : World) : Calls Tryd.prog 45 #[.agg #[.string (strOf x.n), .int .u32 (x.i : Int)], .string (strOf n)] w fun e w' => e = .returned (.int .i64 (Lib.compareBytes x.n n)) ∧ Still w w' := by
  have HB := Has.new w 38 #[.string (strOf x.n), .int .u32 (x.i : Int)]
  have b0 := HB.cell 0
  simp only [List.getElem?_toArray, List.getElem?_cons_zero] at b0
  have KB : Hid (Still w (w.alloc (.cells #[.string (strOf x.n), .int .u32 (x.i : Int)] 38))) := Lib.hid ((Still.refl w).alloc _)
  have C : Hid (∀ W, Calls Tryd.prog 46 #[.string (strOf x.n), .string (strOf n)] W fun e w' => e = .returned (.int .i64 (Lib.compareBytes x.n n)) ∧ w' = W) := Lib.hid (fun W => Tryd.strings_Compare (strOf x.n) (strOf n) W)
  generalize Lib.compareBytes x.n n = N at *
  clear HB
  go_enter Tryd.func45, Tryd.ntmps45
  go_wp2_with fail
  refine (C.out _).mono ?_
  rintro e w' ⟨rfl, rfl⟩
  go_wp2
  go_ret
  exact ⟨rfl, KB.out⟩
set_option maxHeartbeats 1000000 in
theorem search_any (E : Nat → Prop) (v : Value) (l : List En) (n : List UInt8) (w : World) (hr : Rise l) (hl : l.length ≤ 1000000) (h : EsIs w E v l) :
    Calls Tryd.prog 44 #[v, .string (strOf n), .func (.func 45) #[] #[]] w fun e w' => e = .returned (.tuple #[.int .i64 (posE n l : Int), .bool (decide (∃ y ∈ l, y.n = n))]) ∧ Still w w' := by
  obtain ⟨A, c, rfl⟩ := h.form
  have HA : Hid (∀ wr, Still w wr → EsIs wr E (.slice A l.length c) l) := Lib.hid (fun wr k => EsIs.only h k (fun _ _ _ h => h))
  have HR := Lib.hid hr
  have HP := Lib.hid (posE_le n l)
  have CC := Lib.hid (fun (x : En) W => place1_any x n W)
  obtain ⟨P, hP⟩ : ∃ P, P = posE n l := ⟨_, rfl⟩
  rw [← hP] at HP
  have HPE := Lib.hid hP
  clear h hr
  go_enter Tryd.func44, Tryd.ntmps44
  go_wp2_with fail
  go_loopw [9, 10] (fun s t wr => ∃ i j : Nat, s = .int .i64 i ∧ t = .int .i64 j ∧ i ≤ P ∧ P ≤ j ∧ j ≤ l.length ∧ Hid (Still w wr)) (fun s t _ => (intOf t).toNat - (intOf s).toNat)
  case atStart => exact ⟨0, l.length, rfl, rfl, Nat.zero_le _, HP.out, Nat.le_refl _, Lib.hid (Still.refl w)⟩
  case round =>
    obtain ⟨i, j, rfl, rfl, hi, hj, hjl, hst⟩ := hrel
    by_cases hlt : i < j
    · obtain ⟨k, hk⟩ : ∃ k, k = (i + j) / 2 := ⟨_, rfl⟩
      have hk1 : i ≤ k := by omega
      have hk2 : k < j := by omega
      have hkl : k < l.length := by omega
      obtain ⟨ad, c', e, z0, z1⟩ := EsIs.at (HA.out _ hst.out) hkl
      injection e with e1 _ e2
      subst e1 e2
      obtain ⟨q1, q2⟩ := half_step (n := n) HR.out hkl
      rw [← HPE.out] at q1 q2
      obtain ⟨x, hx⟩ : ∃ x, x = l[k] := ⟨_, rfl⟩
      rw [← hx] at z0 z1 q1 q2
      have i0 : (0 : Int) ≤ (k : Int) := by omega
      have i1 : (k : Int) < (l.length : Int) := by omega
      have w1 : IntKind.i64.wrap ((i : Int) + (j : Int)) = (i : Int) + (j : Int) := IntWalk.i64_in _ (by omega)
      have w2 : IntKind.u64.wrap ((i : Int) + (j : Int)) = (i : Int) + (j : Int) := IntWalk.u64_in _ (by omega)
      have w3 : ((i : Int) + (j : Int)) / 2 = (k : Int) := by omega
      have w4 : IntKind.i64.wrap (k : Int) = (k : Int) := IntWalk.i64_in _ (by omega)
      have w5 : IntKind.u64.wrap (k : Int) = (k : Int) := IntWalk.u64_in _ (by omega)
      have C := Lib.hid (CC.out x)
      by_cases ha : Ahd x.n n
      · have dc : decide (Lib.compareBytes x.n n < 0) = true := by rw [cmp_lt, decide_eq_true ha]
        have q := q1 ha
        generalize Lib.compareBytes x.n n = N at *
        clear hx q1 q2 HR HPE hP ha hk
        go_wp2_with fail
        refine (C.out _).mono ?_
        rintro e w2 ⟨rfl, k2⟩
        have R := Lib.hid (hst.out.trans k2)
        clear k2 C hst z0 z1
        go_wp2
        go_roundw
        case rel => exact ⟨k + 1, j, by go_num, rfl, q, hj, hjl, R⟩
        case measure => simp [intOf]; omega
      · have dc : decide (Lib.compareBytes x.n n < 0) = false := by rw [cmp_lt, decide_eq_false ha]
        have q := q2 ha
        generalize Lib.compareBytes x.n n = N at *
        clear hx q1 q2 HR HPE hP ha hk
        go_wp2_with fail
        refine (C.out _).mono ?_
        rintro e w2 ⟨rfl, k2⟩
        have R := Lib.hid (hst.out.trans k2)
        clear k2 C hst z0 z1
        go_wp2
        go_roundw
        case rel => exact ⟨i, k, rfl, rfl, hi, q, by omega, R⟩
        case measure => simp [intOf]; omega
    · have e1 : i = P := by omega
      have e2 : i = j := by omega
      subst e1 e2
      clear hlt hi hj
      by_cases hkl : i < l.length
      · obtain ⟨ad, c', e, z0, z1⟩ := EsIs.at (HA.out _ hst.out) hkl
        injection e with e1 _ e2
        subst e1 e2
        have hth := there_pos (n := n) HR.out
        rw [← HPE.out] at hth
        obtain ⟨x, hx⟩ : ∃ x, x = l[i] := ⟨_, rfl⟩
        have hth2 : (∃ y ∈ l, y.n = n) ↔ x.n = n := by
          rw [hth, hx]
          exact ⟨fun ⟨_, h⟩ => h, fun h => ⟨hkl, h⟩⟩
        rw [← hx] at z0 z1
        have i0 : (0 : Int) ≤ (i : Int) := by omega
        have i1 : (i : Int) < (l.length : Int) := by omega
        have d4 : decide (i < l.length) = true := decide_eq_true hkl
        have C := Lib.hid (CC.out x)
        have dc : (Lib.compareBytes x.n n == 0) = decide (∃ y ∈ l, y.n = n) := by
          rw [cmp_zero]
          by_cases h : x.n = n
          · rw [decide_eq_true h, decide_eq_true (hth2.2 h)]
          · rw [decide_eq_false h, decide_eq_false (fun k => h (hth2.1 k))]
        obtain ⟨B, hB⟩ : ∃ B, B = decide (∃ y ∈ l, y.n = n) := ⟨_, rfl⟩
        have HB := Lib.hid hB
        rw [← hB] at dc
        generalize Lib.compareBytes x.n n = N at *
        clear hx hth hth2 HR hP hB
        go_wp2_with fail
        refine (C.out _).mono ?_
        rintro e w2 ⟨rfl, k2⟩
        have R := Lib.hid (hst.out.trans k2)
        clear k2 C hst z0 z1
        go_wp2
        go_ret2
        exact ⟨by rw [← HPE.out, ← HB.out]; rfl, R.out⟩
      · have hth : ¬ ∃ y ∈ l, y.n = n := by
          rw [there_pos HR.out, ← HPE.out]
          rintro ⟨h, _⟩
          exact hkl h
        have d4 : decide (i < l.length) = false := decide_eq_false hkl
        have HB := Lib.hid (decide_eq_false hth)
        clear hth HR hP
        go_wp2
        go_ret2
        exact ⟨by rw [← HPE.out, HB.out]; rfl, hst.out⟩
theorem place_any (E : Nat → Prop) (v : Value) (l : List En) (n : List UInt8) (w : World) (hr : Rise l) (hl : l.length ≤ 1000000) (h : EsIs w E v l) :
    Calls Tryd.prog 28 #[v, .string (strOf n)] w fun e w' => e = .returned (.tuple #[.int .i64 (posE n l : Int), .bool (decide (∃ y ∈ l, y.n = n))]) ∧ Still w w' := by
  have C := Lib.hid (search_any E v l n w hr hl h)
  obtain ⟨A, c, rfl⟩ := h.form
  clear h
  generalize posE n l = P at *
  generalize decide (∃ y ∈ l, y.n = n) = B at *
  go_enter Tryd.func28, Tryd.ntmps28
  go_wp2_with fail
  refine C.out.mono ?_
  rintro e w2 ⟨rfl, k2⟩
  have R := Lib.hid k2
  clear k2 C
  go_wp2
  go_ret2
  exact ⟨rfl, R.out⟩
set_option maxHeartbeats 1000000 in
theorem find_spec : FindSpec := by
  intro E v l n w _ hg hu hl hn h
  have C := Lib.hid (place_any E v l n w hg.2 (by omega) h)
  obtain ⟨A, c, rfl⟩ := h.form
  by_cases ht : ∃ y ∈ l, y.n = n
  · obtain ⟨hk, hen⟩ := (there_pos hg.2).1 ht
    obtain ⟨ad, c', e, z0, z1⟩ := h.at hk
    injection e with e1 _ e2
    subst e1 e2
    have hf : findI l n = (l[posE n l]).i := (find_at hg.2 hk hen).2
    rw [decide_eq_true ht] at C ⊢
    rw [hf]
    have KZ : Hid (∀ w2, Still w w2 → w2.cell? ⟨(ad.add (posE n l * 2)).block, (ad.add (posE n l * 2)).off + 1, none⟩ = some (.int .u32 ((l[posE n l]).i : Int))) := Lib.hid (fun w2 k => by
      obtain ⟨a2, c2, e, y0, y1⟩ := (EsIs.only h k (fun _ _ _ h => h)).at hk
      injection e with e1 _ e2
      injection e1 with e1
      subst e1
      exact y1)
    generalize (l[posE n l]).i = I at *
    generalize posE n l = P at *
    have i0 : (0 : Int) ≤ (P : Int) := by omega
    have i1 : (P : Int) < (l.length : Int) := by omega
    clear h ht hen hf z0 z1 hu hg
    go_enter Tryd.func18, Tryd.ntmps18
    go_wp2_with fail
    refine C.out.mono ?_
    rintro e w2 ⟨rfl, k2⟩
    have y1 := KZ.out _ k2
    have R := Lib.hid k2
    clear k2 C KZ
    go_wp2
    go_ret2
    exact ⟨rfl, R.out⟩
  · have hf : findI l n = 0 := find_none ht
    rw [decide_eq_false ht] at C ⊢
    rw [hf]
    generalize posE n l = P at *
    clear h ht hf hu hg
    go_enter Tryd.func18, Tryd.ntmps18
    go_wp2_with fail
    refine C.out.mono ?_
    rintro e w2 ⟨rfl, k2⟩
    have R := Lib.hid k2
    clear k2 C
    go_wp2
    go_ret2
    exact ⟨rfl, R.out⟩
end Go.Proofs.YtkhgaolaaiekjaaDoor
namespace Go.Proofs.YtkhgaolaaiekjaaDoor
open Go.RowKit

section
variable {P : Program} (w : World)
theorem run_append_fresh (t tn ty e : TypeId) (i : TypeInfo) (z : Value) (size bytes : Nat) (kn : IntKind) (ht : P.underlying t = some (.slice e)) (htn : P.underlying tn = some (.int kn)) (hi : P.info? e = some i) (hz : i.zero = some z)
    (hsize : i.size = size) (hby : i.bytes = bytes) (hzs : z.cells.size = size) (hsz : 0 < size) (c : Nat) (n : Nat) (hn : 0 < n) (hc : c < n) (hl : n ≤ 1000000) (hb : n * bytes ≤ 140737488355328) :
    ∃ cap w', (Builtin.append_ #[t, tn] ty #[.slice none 0 c, .int .i64 n]).run P w = .ok (.slice (some ⟨w.heap.size, 0, none⟩) n cap) w' ∧ n ≤ cap ∧ cap ≤ maxLen ∧
      w'.ownsRow w.heap.size e size (.slice (some ⟨w.heap.size, 0, none⟩) 0 cap) 0 [] ∧ Still w w' := by
  have hn0 : ¬ (n * size = 0) := by
    have := Nat.mul_pos hn hsz
    omega
  have hw : IntKind.i64.wrap (n : Int) = n := by rw [IntKind.wrap_i64]; omega
  have hneg : ¬ ((n : Int) < 0) := by omega
  have h48 : ¬ (281474976710656 < (n : Int) * (bytes : Int)) := by
    have : (n : Int) * (bytes : Int) = ((n * bytes : Nat) : Int) := by simp
    omega
  have h63 : ¬ (9223372036854775807 < (n : Int)) := by omega
  have hroom : ¬ (n ≤ c) := by omega
  have hge := grownCap_ge w n c e
  have hcl := grownCap_le_maxLen w n c e (by simp only [maxLen]; omega)
  have hgf := growslice_fits (need := n) (old := c) (bytes := bytes) hc hb
  have h48' : ¬ (281474976710656 < Builtin.nextslicecap n c * bytes) := by omega
  refine ⟨grownCap w n c e, w.drew.alloc (.cells (#[] ++ Builtin.zeroCells z.cells n ++ Builtin.zeroCells z.cells (grownCap w n c e - n)) e), ?_, hge, hcl, ?_, ?_⟩
  · simp [Builtin.append_, run_underlying ht, run_underlying htn, sizeOf, typeInfo, zeroValue, hi, hz, hsize, hby, asInt, asIntOf, hw, hn0, hneg, h48, h63, hroom, h48', Question.forced, newRow, grownCap, Builtin.firstCells]
  · refine ⟨by simp, .inr ⟨w.heap.size, _, _, rfl, Nat.le_refl _, heap_alloc_new w.drew _, Nat.zero_le _, hcl, ?_, by simp⟩⟩
    simp only [Builtin.zeroCells, Array.size_append, Array.size_map, Array.size_range, hzs, List.size_toArray, List.length_nil]
    rw [Nat.zero_add, ← Nat.add_mul]
    congr 1
    omega
  · exact ((Still.refl w).drew).alloc _
theorem wpList_append_fresh {ops : Array Oper} {rest : List Oper} {o : Oper} {a : Act} {Q : Exit → Act → World → Prop} (hgd : o.guard = none) (s x : Operand) (t tn : TypeId)
    (ho : o.op = .call { callee := .builtin .append, args := #[s, x], argTypes := #[t, tn] })
    (e : TypeId) (i : TypeInfo) (z : Value) (size bytes : Nat) (kn : IntKind) (ht : P.underlying t = some (.slice e)) (htn : P.underlying tn = some (.int kn)) (hi : P.info? e = some i) (hz : i.zero = some z)
    (hsize : i.size = size) (hby : i.bytes = bytes) (hzs : z.cells.size = size) (hsz : 0 < size) (c n : Nat) (hs : a.eval s = .slice none 0 c) (hx : a.eval x = .int .i64 n) (hn : 0 < n) (hc : c < n) (hl : n ≤ 1000000) (hb : n * bytes ≤ 140737488355328)
    (h : ∀ cap w', n ≤ cap → cap ≤ maxLen → w'.ownsRow w.heap.size e size (.slice (some ⟨w.heap.size, 0, none⟩) 0 cap) 0 [] → Still w w' → wpList P ops Q rest (a.put o.dst (.slice (some ⟨w.heap.size, 0, none⟩) n cap)) w') :
    wpList P ops Q (o :: rest) a w := by
  refine wpList_plain hgd fun K hK => ?_
  obtain ⟨cap, w', hr, h2, h3, h4, h5⟩ := run_append_fresh (P := P) w t tn o.type e i z size bytes kn ht htn hi hz hsize hby hzs hsz c n hn hc hl hb
  unfold Oper.wp execOp
  simp only [ho, resolve, invoke, builtin, Sem.run_bind, Sem.run_pure, Result.andThen_ok, List.map_toArray, List.map_cons, List.map_nil, hs, hx, hr]
  exact hK _ _ (h cap w' h2 h3 h4 h5)
end
end Go.Proofs.YtkhgaolaaiekjaaDoor
namespace Go.Proofs.YtkhgaolaaiekjaaDoor
open Go.RowKit Go.Lib
set_option maxRecDepth 100000

theorem grow_any (n : Nat) (hn : n ≤ 100000) (w : World) : Calls Tryd.prog 47 #[.slice none 0 0, .int .i64 (n : Int)] w fun e w' => ∃ A c, e = .returned (.slice A 0 c) ∧ w'.ownsRow w.heap.size 38 2 (.slice A 0 c) 0 [] ∧ Still w w' := by
  obtain ⟨j0, hj0, hy0, hy1, hy2⟩ := info_parts Tryd.infoEntR
  have d0 : decide ((n : Int) < 0) = false := decide_eq_false (by omega)
  by_cases h0 : n = 0
  · subst h0
    go_enter Tryd.func47, Tryd.ntmps47
    go_wp2
    go_ret
    exact ⟨none, 0, rfl, World.ownsRow_nil _ _ _ _, Still.refl w⟩
  · have d1 : decide (0 < (n : Int)) = true := decide_eq_true (by omega)
    have d2 : decide (0 < n) = true := decide_eq_true (by omega)
    have w1 : IntKind.i64.wrap (n : Int) = (n : Int) := IntWalk.i64_in _ (by omega)
    have hp : 0 < n := by omega
    go_enter Tryd.func47, Tryd.ntmps47
    go_wp2_with (at_builtin; go_must (refine wpList_append_fresh _ rfl (.tmp 20) (.tmp 21) 22 3 rfl 38 j0 _ 2 24 _ Tryd.underlying22 Tryd.underlying3 hj0 hy0 hy1 hy2 rfl (by omega) 0 n rfl rfl hp hp (by omega) (by omega) ?_))
    intro cap w' h1 h2 ho hk
    have HO := Lib.hid ho
    have HK := Lib.hid hk
    have hc0 : ¬ cap = 0 := by omega
    have i0 : (0 : Int) ≤ (cap : Int) := by omega
    have i1 : (cap : Int) ≤ 9223372036854775807 := by
      simp only [maxLen] at h2
      omega
    clear ho hk
    go_wp2
    go_ret
    exact ⟨_, _, rfl, HO.out, HK.out⟩

/-- Rows of entries, and what each reads as, in a row. -/
def PsIs (w : World) (v : Value) (ps : List (Value × List En)) : Prop :=
  ∃ A c, v = .slice A ps.length c ∧ ∀ j (hj : j < ps.length), (∃ ad, A = some ad ∧ ad.block < w.heap.size ∧ w.cell? (ad.add j) = some (ps[j]).1) ∧ ∃ E, EsIs w E (ps[j]).1 (ps[j]).2
theorem PsIs.still {w w' : World} {v : Value} {ps : List (Value × List En)} (h : PsIs w v ps) (k : Still w w') : PsIs w' v ps := by
  obtain ⟨A, c, e, h⟩ := h
  refine ⟨A, c, e, fun j hj => ?_⟩
  obtain ⟨⟨ad, h1, h2, h3⟩, E, h4⟩ := h j hj
  exact ⟨⟨ad, h1, Nat.lt_of_lt_of_le h2 k.size, (Only.cell k (by rw [addr_block]; exact h2) (fun h => h)).trans h3⟩, E, EsIs.only h4 k (fun _ _ _ h => h)⟩
/-- The entries of them, one behind the other. -/
def rowsP (ps : List (Value × List En)) : List En := ps.flatMap (·.2)
theorem rowsP_take (ps : List (Value × List En)) (j : Nat) (h : j < ps.length) : rowsP (ps.take (j + 1)) = rowsP (ps.take j) ++ (ps[j]).2 := by
  unfold rowsP
  rw [List.take_succ_eq_append_getElem h, List.flatMap_append]
  simp
theorem rowsP_le (ps : List (Value × List En)) (j : Nat) : (rowsP (ps.take j)).length ≤ (rowsP ps).length := by
  have : rowsP ps = rowsP (ps.take j) ++ rowsP (ps.drop j) := by
    unfold rowsP
    rw [← List.flatMap_append, List.take_append_drop]
  rw [this, List.length_append]
  omega
set_option maxHeartbeats 4000000 in
theorem concat_any (v : Value) (ps : List (Value × List En)) (w : World) (h : PsIs w v ps) (hp : ps.length ≤ 1000) (hl : (rowsP ps).length ≤ 100000) :
    Calls Tryd.prog 30 #[v] w fun e w' => ∃ V, e = .returned V ∧ w'.ownsRow w.heap.size 38 2 V (rowsP ps).length (enC (rowsP ps)) ∧ Still w w' := by
  obtain ⟨j0, hj0, hy0, hy1, hy2⟩ := info_parts Tryd.infoEntR
  have H : Hid (∀ wr, Still w wr → PsIs wr v ps) := Lib.hid (fun wr k => h.still k)
  obtain ⟨A, c, rfl, _⟩ := h
  have LL := Lib.hid (rowsP_le ps)
  have HL := Lib.hid hl
  have G := Lib.hid (fun n hn w => grow_any n hn w)
  have S0 : Hid ((rowsP (ps.take 0)).length = 0) := Lib.hid rfl
  go_enter Tryd.func30, Tryd.ntmps30
  go_wp2_with fail
  go_loopw [3, 11] (fun s i wr => ∃ j : Nat, j ≤ ps.length ∧ i = .int .i64 j ∧ s = .int .i64 ((rowsP (ps.take j)).length : Nat) ∧ wr = w) (fun _ i _ => ps.length - (intOf i).toNat)
  case atStart => exact ⟨0, Nat.zero_le _, rfl, by rw [S0.out]; rfl, rfl⟩
  case round =>
    obtain ⟨j, hj, rfl, rfl, rfl⟩ := hrel
    by_cases hlt : j < ps.length
    · obtain ⟨A', c', e, hh⟩ := H.out wr (Still.refl wr)
      injection e with e1 _ e2
      subst e1 e2
      obtain ⟨⟨ad, rfl, _, z0⟩, E, he⟩ := hh j hlt
      have TK := rowsP_take ps j hlt
      have TL := LL.out (j + 1)
      rw [TK] at TL
      obtain ⟨A2, c2, e2⟩ := he.form
      rw [e2] at z0
      have R : Hid (((rowsP (ps.take (j + 1))).length : Int) = ((rowsP (ps.take j)).length : Int) + ((ps[j]).2.length : Int)) := Lib.hid (by
        rw [TK, List.length_append]
        omega)
      rw [List.length_append] at TL
      generalize (ps[j]).2.length = N at *
      generalize (rowsP (ps.take j)).length = M at *
      have i0 : (0 : Int) ≤ (j : Int) := by omega
      have i1 : (j : Int) < (ps.length : Int) := by omega
      have w1 : IntKind.i64.wrap ((M : Int) + (N : Int)) = (M : Int) + (N : Int) := IntWalk.i64_in _ (by omega)
      have d1 : decide ((M : Int) + (N : Int) < 0) = false := decide_eq_false (by omega)
      clear hh he e2 TK TL S0
      go_wp2
      go_roundw
      case rel => exact ⟨j + 1, by omega, by go_num, by rw [R.out], trivial⟩
      case measure => simp [intOf]; omega
    · have EJ : Hid (((rowsP (ps.take j)).length : Int) = ((rowsP ps).length : Int)) := Lib.hid (by rw [List.take_of_length_le (by omega)])
      rw [EJ.out]
      have C := Lib.hid (G.out _ hl wr)
      obtain ⟨T, hT⟩ : ∃ T, T = (rowsP ps).length := ⟨_, rfl⟩
      have HT := Lib.hid hT
      rw [← hT] at C
      rw [← hT]
      clear EJ G S0 hT hl
      go_wp2_with fail
      refine C.out.mono ?_
      rintro e w2 ⟨A2, c2, rfl, o2, k2⟩
      have R0 : Hid (w2.ownsRow wr.heap.size 38 2 (.slice A2 0 c2) (rowsP (ps.take 0)).length (enC (rowsP (ps.take 0))) ∧ Still wr w2) := Lib.hid ⟨o2, k2⟩
      obtain ⟨w0, hw0⟩ : ∃ w0, w0 = wr := ⟨_, rfl⟩
      subst hw0
      clear o2 k2 C
      go_wp2_with fail
      go_loopw [6, 27] (fun s i wr => ∃ j : Nat, j ≤ ps.length ∧ i = .int .i64 j ∧ Hid (wr.ownsRow w0.heap.size 38 2 s (rowsP (ps.take j)).length (enC (rowsP (ps.take j))) ∧ Still w0 wr)) (fun _ i _ => ps.length - (intOf i).toNat)
      case atStart => exact ⟨0, Nat.zero_le _, rfl, R0⟩
      case round =>
        obtain ⟨j, hj, rfl, hrel⟩ := hrel
        by_cases hlt : j < ps.length
        · obtain ⟨A', c', e, hh⟩ := H.out _ hrel.out.2
          injection e with e1 _ e2
          subst e1 e2
          obtain ⟨⟨ad, rfl, _, z0⟩, E, he⟩ := hh j hlt
          have TK := rowsP_take ps j hlt
          have TL := LL.out (j + 1)
          rw [TK, List.length_append] at TL
          have hl := HL.out
          obtain ⟨A4, c4, e4⟩ := he.form
          rw [e4] at z0 he
          have XX0 := he.1
          have OWN0 := hrel.out
          generalize rowsP (ps.take j) = L at *
          generalize (ps[j]).2 = m at *
          have HTK := Lib.hid TK
          have OWN := Lib.hid OWN0.1
          have XX := Lib.hid XX0
          have KS := Lib.hid OWN0.2
          have SZ := Lib.hid OWN0.2.size
          have i0 : (0 : Int) ≤ (j : Int) := by omega
          have i1 : (j : Int) < (ps.length : Int) := by omega
          clear hh he e4 TK XX0 OWN0 hrel R0 LL
          go_wp2_with (at_builtin; go_must (refine wpList_append_rows _ rfl (.tmp 31) (.tmp 32) 22 rfl _ 38 j0 _ 2 24 Tryd.underlying22 hj0 hy0 hy1 hy2 rfl (by omega) _ L.length (enC L) rfl OWN.out _ m.length _ (enC m) rfl XX.out (enC_length _) (enC_one _) (by simp only [maxLen]; omega) (by omega) SZ.out ?_))
          intro v9 w9 a9 g9 _
          have R : Hid (w9.ownsRow w0.heap.size 38 2 v9 (rowsP (ps.take (j + 1))).length (enC (rowsP (ps.take (j + 1)))) ∧ Still w0 w9) := Lib.hid (by
            rw [HTK.out, List.length_append, enC_append]
            exact ⟨a9, Still.of_below (KS.out.below.grown g9 SZ.out (fun i hi => (OWN.out.lt i hi).1))⟩)
          clear a9 g9 OWN XX KS SZ HTK z0
          go_wp2
          go_roundw
          case rel => exact ⟨j + 1, by omega, by go_num, R⟩
          case measure => simp [intOf]; omega
        · have R := hrel.out
          rw [List.take_of_length_le (by omega)] at R
          have R := Lib.hid R
          obtain ⟨A4, n4, c4, rfl⟩ := owns_form R.out.1
          clear hrel R0 LL H
          go_wp2
          go_ret
          exact ⟨_, rfl, R.out⟩
end Go.Proofs.YtkhgaolaaiekjaaDoor
