/-
  Layer 6: bytes on a road cut into bodies, as a function of bytes; lists of byte slices in memory.
-/
import Derived.Test.YtfldgoggaadohaaNumH
namespace Go.Proofs.Ytfldgoggaadohaa
open Go.RowKit

/-- The size that stands ahead. -/
def hd (bs : List UInt8) : Nat := le (bs.take 4)
theorem hd_append (a b : List UInt8) (h : 4 ≤ a.length) : hd (a ++ b) = hd a := by
  unfold hd
  rw [List.take_append_of_le_length h]
theorem hd_lt (bs : List UInt8) : hd bs < 4294967296 := by
  have h1 := le_lt (bs.take 4)
  have h2 : 256 ^ (bs.take 4).length ≤ 256 ^ 4 := Nat.pow_le_pow_right (by omega) (by rw [List.length_take]; omega)
  unfold hd
  omega

/-- The bodies that bytes hold, what is left of them, whether they end a stream. -/
def cut (m : Int) (bs : List UInt8) : List (List UInt8) × List UInt8 × Bool :=
  if bs.length < 4 then ([], bs, false)
  else if _hb : hd bs < 7 ∨ m < (hd bs : Int) then ([], [], true)
  else if _hl : bs.length < hd bs then ([], bs, false)
  else (((bs.take (hd bs)).drop 4) :: (cut m (bs.drop (hd bs))).1, (cut m (bs.drop (hd bs))).2)
termination_by bs.length
decreasing_by all_goals (simp only [List.length_drop]; omega)

theorem cut_short {m : Int} {bs : List UInt8} (h : bs.length < 4) : cut m bs = ([], bs, false) := by rw [cut, if_pos h]
theorem cut_dead {m : Int} {bs : List UInt8} (h : ¬ bs.length < 4) (hb : hd bs < 7 ∨ m < (hd bs : Int)) : cut m bs = ([], [], true) := by rw [cut, if_neg h, dif_pos hb]
theorem cut_wait {m : Int} {bs : List UInt8} (h : ¬ bs.length < 4) (hb : ¬ (hd bs < 7 ∨ m < (hd bs : Int))) (hl : bs.length < hd bs) : cut m bs = ([], bs, false) := by rw [cut, if_neg h, dif_neg hb, dif_pos hl]
theorem cut_one {m : Int} {bs : List UInt8} (h : ¬ bs.length < 4) (hb : ¬ (hd bs < 7 ∨ m < (hd bs : Int))) (hl : ¬ bs.length < hd bs) :
    cut m bs = (((bs.take (hd bs)).drop 4) :: (cut m (bs.drop (hd bs))).1, (cut m (bs.drop (hd bs))).2) := by rw [cut, if_neg h, dif_neg hb, dif_neg hl]

theorem cut_append (m : Int) (n : Nat) : ∀ (a b : List UInt8), a.length ≤ n → cut m (a ++ b) = if (cut m a).2.2 = true then cut m a else ((cut m a).1 ++ (cut m ((cut m a).2.1 ++ b)).1, (cut m ((cut m a).2.1 ++ b)).2) := by
  induction n with
  | zero =>
    intro a b h
    rw [cut_short (bs := a) (by omega)]
    simp
  | succ n ih =>
    intro a b h
    by_cases h4 : a.length < 4
    · rw [cut_short h4]
      simp
    · have hh := hd_append a b (by omega)
      have hL : (a ++ b).length = a.length + b.length := List.length_append
      have h4' : ¬ (a ++ b).length < 4 := by omega
      by_cases hb : hd a < 7 ∨ m < (hd a : Int)
      · rw [cut_dead h4 hb, cut_dead h4' (by rw [hh]; exact hb)]
        simp
      · by_cases hl : a.length < hd a
        · rw [cut_wait h4 hb hl]
          simp
        · rw [cut_one h4 hb hl, cut_one h4' (by rw [hh]; exact hb) (by rw [hh]; omega), hh, List.drop_append_of_le_length (by omega), List.take_append_of_le_length (by omega),
            ih (a.drop (hd a)) b (by rw [List.length_drop]; omega)]
          by_cases hd' : (cut m (a.drop (hd a))).2.2 = true
          · simp [hd']
          · simp [hd']

/-- What a stream tells of bytes that come, and how it stands then. -/
def feedS (m : Int) (held : List UInt8) (dead : Bool) (b : List UInt8) : List (List UInt8) × List UInt8 × Bool := if dead = true then ([], held, true) else cut m (held ++ b)
theorem feed_cut {m : Int} {a held b held' : List UInt8} {dead dead' : Bool} {xs ys : List (List UInt8)} (h : cut m a = (xs, held, dead)) (k : feedS m held dead b = (ys, held', dead')) :
    cut m (a ++ b) = (xs ++ ys, held', dead') := by
  rw [cut_append m a.length a b (Nat.le_refl _), h]
  unfold feedS at k
  by_cases hd : dead = true
  · rw [if_pos hd] at k ⊢
    injection k with k1 k2
    injection k2 with k2 k3
    rw [← k1, ← k2, ← k3, hd, List.append_nil]
  · rw [if_neg hd] at k ⊢
    simp only [k]
theorem cut_nil (m : Int) : cut m [] = ([], [], false) := cut_short (by simp)
theorem cut_dead_held {m : Int} (n : Nat) : ∀ {bs : List UInt8}, bs.length ≤ n → (cut m bs).2.2 = true → (cut m bs).2.1 = [] := by
  induction n with
  | zero =>
    intro bs h hd'
    rw [cut_short (by omega)] at hd'
    cases hd'
  | succ n ih =>
    intro bs h hd'
    by_cases h4 : bs.length < 4
    · rw [cut_short h4] at hd'
      cases hd'
    · by_cases hb : hd bs < 7 ∨ m < (hd bs : Int)
      · rw [cut_dead h4 hb]
      · by_cases hl : bs.length < hd bs
        · rw [cut_wait h4 hb hl] at hd'
          cases hd'
        · rw [cut_one h4 hb hl] at hd' ⊢
          exact ih (by rw [List.length_drop]; omega) hd'
/-- How much there is of it all. -/
theorem cut_len (m : Int) (n : Nat) : ∀ (bs : List UInt8), bs.length ≤ n → 7 * (cut m bs).1.length + (cut m bs).2.1.length ≤ bs.length := by
  induction n with
  | zero =>
    intro bs h
    rw [cut_short (by omega)]
    simp
  | succ n ih =>
    intro bs h
    by_cases h4 : bs.length < 4
    · rw [cut_short h4]
      simp
    · by_cases hb : hd bs < 7 ∨ m < (hd bs : Int)
      · rw [cut_dead h4 hb]
        simp
      · by_cases hl : bs.length < hd bs
        · rw [cut_wait h4 hb hl]
          simp
        · rw [cut_one h4 hb hl]
          have := ih (bs.drop (hd bs)) (by rw [List.length_drop]; omega)
          simp only [List.length_cons, List.length_drop] at this ⊢
          omega
theorem feedS_len (m : Int) (held b : List UInt8) (dead : Bool) : 7 * (feedS m held dead b).1.length + (feedS m held dead b).2.1.length ≤ held.length + b.length := by
  unfold feedS
  split
  · simp
  · have := cut_len m _ (held ++ b) (Nat.le_refl _)
    rw [List.length_append] at this
    exact this

/-- A body behind its size. -/
def wrapB (b : List UInt8) : List UInt8 := putB 4 (b.length + 4) ++ b
theorem wrapB_length (b : List UInt8) : (wrapB b).length = b.length + 4 := by
  unfold wrapB
  rw [List.length_append, putB_length]
  omega
theorem cut_wrap {m : Int} {b rest : List UInt8} (h3 : 3 ≤ b.length) (hm : ((b.length + 4 : Nat) : Int) ≤ m) (hs : b.length + 4 < 4294967296) : cut m (wrapB b ++ rest) = (b :: (cut m rest).1, (cut m rest).2) := by
  have hl := wrapB_length b
  have e : hd (wrapB b ++ rest) = b.length + 4 := by
    rw [hd_append _ _ (by omega)]
    unfold hd wrapB
    rw [List.take_left' (putB_length 4 _), le_putB]
    exact Nat.mod_eq_of_lt (by omega)
  have hL : (wrapB b ++ rest).length = b.length + 4 + rest.length := by rw [List.length_append, hl]
  rw [cut_one (by omega) (by rw [e]; omega) (by rw [e]; omega), e, List.take_left' hl, List.drop_left' hl]
  have e2 : (wrapB b).drop 4 = b := by
    unfold wrapB
    exact List.drop_left' (putB_length 4 _)
  rw [e2]

/-- A slice that reads as bytes; its block is one of E. -/
def ElIs (w : World) (E : Nat → Prop) (u : Value) (bs : List UInt8) : Prop :=
  ∃ A c, u = .slice A bs.length c ∧ bs.length ≤ c ∧ c ≤ maxLen ∧ (0 < bs.length → ∃ ad, A = some ad ∧ E ad.block ∧ ad.block < w.heap.size ∧ ∀ j u, (b8s bs)[j]? = some u → w.cell? (ad.add j) = some u)
section
variable {a b w : World} {S E F : Nat → Prop} {u v : Value} {bs x : List UInt8} {us vs : List Value} {xs ys : List (List UInt8)}
theorem ElIs.only (h : ElIs a E u bs) (k : Only S a b) (hn : ∀ i, i < a.heap.size → E i → ¬ S i) : ElIs b E u bs := by
  obtain ⟨A, c, e, h1, h2, h3⟩ := h
  refine ⟨A, c, e, h1, h2, fun h0 => ?_⟩
  obtain ⟨ad, q1, q2, q3, q4⟩ := h3 h0
  refine ⟨ad, q1, q2, Nat.lt_of_lt_of_le q3 k.size, fun j u hu => ?_⟩
  exact (k.cell (by rw [addr_block]; exact q3) (by rw [addr_block]; exact hn _ q3 q2)).trans (q4 j u hu)
theorem ElIs.mono (h : ElIs w E u bs) (hs : ∀ i, i < w.heap.size → E i → F i) : ElIs w F u bs := by
  obtain ⟨A, c, e, h1, h2, h3⟩ := h
  refine ⟨A, c, e, h1, h2, fun h0 => ?_⟩
  obtain ⟨ad, q1, q2, q3, q4⟩ := h3 h0
  exact ⟨ad, q1, hs _ q3 q2, q3, q4⟩
theorem ElIs.sl (h : ElIs w E u bs) : SlIs w 0 w.heap.size u bs := by
  obtain ⟨A, c, e, h1, h2, h3⟩ := h
  refine ⟨A, c, e, h1, h2, fun h0 => ?_⟩
  obtain ⟨ad, q1, q2, q3, q4⟩ := h3 h0
  exact ⟨ad, q1, Nat.zero_le _, q3, q4⟩
theorem ElIs.of_sl {lo hi : Nat} (h : SlIs w lo hi u bs) (hh : hi ≤ w.heap.size) : ElIs w (fun i => lo ≤ i ∧ i < hi) u bs := by
  obtain ⟨A, c, e, h1, h2, h3⟩ := h
  refine ⟨A, c, e, h1, h2, fun h0 => ?_⟩
  obtain ⟨ad, q1, q2, q3, q4⟩ := h3 h0
  exact ⟨ad, q1, ⟨q2, q3⟩, by omega, q4⟩
theorem ElIs.of_own {B : Nat} (h : w.ownsRow B 5 1 v bs.length (b8s bs)) : ElIs w (fun i => v.ownBlock = some i) v bs := by
  rcases id h.2 with ⟨rfl, h0⟩ | ⟨g, cap, cur, rfl, _, hg, h1, h2, _⟩
  · exact ⟨none, 0, by rw [h0], by omega, by simp [maxLen], fun hn => by omega⟩
  · exact ⟨_, cap, rfl, h1, h2, fun hn => ⟨_, rfl, rfl, (Array.getElem?_eq_some_iff.1 hg).1, h.cells (g := g) rfl⟩⟩

/-- Slices that read as these, one by one. -/
def Els (w : World) (E : Nat → Prop) : List Value → List (List UInt8) → Prop
  | [], [] => True
  | u :: us, x :: xs => ElIs w E u x ∧ Els w E us xs
  | _, _ => False
theorem Els.len : ∀ {us : List Value} {xs : List (List UInt8)}, Els w E us xs → us.length = xs.length
  | [], [], _ => rfl
  | _ :: us, _ :: xs, h => by simp [Els.len h.2]
  | [], _ :: _, h => h.elim
  | _ :: _, [], h => h.elim
theorem Els.only (k : Only S a b) (hn : ∀ i, i < a.heap.size → E i → ¬ S i) : ∀ {us : List Value} {xs : List (List UInt8)}, Els a E us xs → Els b E us xs
  | [], [], _ => trivial
  | _ :: _, _ :: _, h => ⟨h.1.only k hn, Els.only k hn h.2⟩
  | [], _ :: _, h => h.elim
  | _ :: _, [], h => h.elim
theorem Els.mono (hs : ∀ i, i < w.heap.size → E i → F i) : ∀ {us : List Value} {xs : List (List UInt8)}, Els w E us xs → Els w F us xs
  | [], [], _ => trivial
  | _ :: _, _ :: _, h => ⟨h.1.mono hs, Els.mono hs h.2⟩
  | [], _ :: _, h => h.elim
  | _ :: _, [], h => h.elim
theorem Els.append : ∀ {us : List Value} {xs : List (List UInt8)}, Els w E us xs → Els w E vs ys → Els w E (us ++ vs) (xs ++ ys)
  | [], [], _, k => k
  | _ :: _, _ :: _, h, k => ⟨h.1, Els.append h.2 k⟩
  | [], _ :: _, h, _ => h.elim
  | _ :: _, [], h, _ => h.elim
theorem Els.get : ∀ {us : List Value} {xs : List (List UInt8)}, Els w E us xs → ∀ {j : Nat} (hj : j < xs.length), ∃ u, us[j]? = some u ∧ ElIs w E u xs[j]
  | [], [], _, _, hj => absurd hj (by simp)
  | u :: _, _ :: _, h, 0, _ => ⟨u, rfl, h.1⟩
  | _ :: _, _ :: _, h, j + 1, hj => by
    obtain ⟨u, e, r⟩ := Els.get h.2 (j := j) (by simpa using hj)
    exact ⟨u, by simpa using e, by simpa using r⟩
  | [], _ :: _, h, _, _ => h.elim
  | _ :: _, [], h, _, _ => h.elim
theorem Els.one : ∀ {us : List Value} {xs : List (List UInt8)}, Els w E us xs → ∀ u ∈ us, u.oneCell' = true
  | [], [], _, _, hu => by simp at hu
  | _ :: _, _ :: _, h, u, hu => by
    rcases List.mem_cons.1 hu with rfl | hu
    · obtain ⟨A, c, rfl, _⟩ := h.1
      rfl
    · exact Els.one h.2 u hu
  | [], _ :: _, h, _, _ => h.elim
  | _ :: _, [], h, _, _ => h.elim

/-- A list of one's own of slices; all of it lies in blocks of E, and none of the slices in the list's own block. -/
def LsAt (w : World) (E : Nat → Prop) (v : Value) (xs : List (List UInt8)) : Prop :=
  ∃ us, w.ownsRow 0 22 1 v us.length us ∧ (∀ i, v.ownBlock = some i → E i) ∧ Els w (fun i => E i ∧ v.ownBlock ≠ some i) us xs
theorem LsAt.nil (w : World) (E : Nat → Prop) : LsAt w E (.slice none 0 0) [] := ⟨[], World.ownsRow_nil _ _ _ _, (fun i h => by cases h), trivial⟩
theorem LsAt.only (h : LsAt a E v xs) (k : Only S a b) (hn : ∀ i, i < a.heap.size → E i → ¬ S i) : LsAt b E v xs := by
  obtain ⟨us, h1, h2, h3⟩ := h
  exact ⟨us, owns_only h1 k (fun i hi => hn i (h1.lt i hi).2 (h2 i hi)), h2, Els.only k (fun i hi hE => hn i hi hE.1) h3⟩
theorem LsAt.mono (h : LsAt w E v xs) (hs : ∀ i, i < w.heap.size → E i → F i) : LsAt w F v xs := by
  obtain ⟨us, h1, h2, h3⟩ := h
  exact ⟨us, h1, fun i hi => hs i (h1.lt i hi).2 (h2 i hi), Els.mono (fun i hi hE => ⟨hs i hi hE.1, hE.2⟩) h3⟩
theorem LsAt.form (h : LsAt w E v xs) : ∃ A c, v = .slice A xs.length c := by
  obtain ⟨us, h1, h2, h3⟩ := h
  have hl := h3.len
  rcases h1.2 with ⟨rfl, h0⟩ | ⟨g, cap, cur, rfl, _⟩
  · exact ⟨none, 0, by rw [← hl, h0]⟩
  · exact ⟨_, cap, by rw [hl]⟩
/-- Slices added behind. -/
theorem LsAt.grow {v' : Value} {news : List Value} (h2 : b.ownsRow 0 22 1 v' (us ++ news).length (us ++ news)) (hg : a.grownBy b v.ownBlock) (hb : v'.ownBlock = v.ownBlock ∨ v'.ownBlock = some a.heap.size)
    (hE : ∀ i, v.ownBlock = some i → E i) (e1 : Els a (fun i => E i ∧ v.ownBlock ≠ some i) us xs) (e2 : Els a (fun i => E i ∧ v.ownBlock ≠ some i) news ys) (hN : E a.heap.size) : LsAt b E v' (xs ++ ys) := by
  refine ⟨us ++ news, h2, ?_, ?_⟩
  · intro i hi
    rcases hb with hb | hb
    · exact hE i (hb ▸ hi)
    · rw [hb] at hi
      injection hi with hi
      exact hi ▸ hN
  · refine Els.only (Only.of_grown hg) (fun i hi hx => ?_) (Els.mono (F := fun i => (E i ∧ v'.ownBlock ≠ some i) ∧ v.ownBlock ≠ some i) (fun i hi hx => ⟨⟨hx.1, ?_⟩, hx.2⟩) (e1.append e2)) |> Els.mono (fun i _ hx => hx.1)
    · exact fun he => hx.2 he.symm
    · rcases hb with hb | hb
      · rw [hb]
        exact hx.2
      · rw [hb]
        intro he
        injection he with he
        omega
end

/-- A slice value whose cells are these. -/
def VsIs (w : World) (x : Value) (news : List Value) : Prop := ∃ A c, x = .slice A news.length c ∧ (0 < news.length → ∃ ad, A = some ad ∧ ∀ j u, news[j]? = some u → w.cell? (ad.add j) = some u)
theorem VsIs.of_own {w : World} {B : Nat} {e : TypeId} {v : Value} {us : List Value} (h : w.ownsRow B e 1 v us.length us) : VsIs w v us := by
  rcases id h.2 with ⟨rfl, h0⟩ | ⟨g, cap, cur, rfl, _⟩
  · exact ⟨none, 0, by rw [h0], fun hn => by omega⟩
  · exact ⟨_, cap, rfl, fun _ => ⟨_, rfl, h.cells (g := g) rfl⟩⟩
theorem VsIs.one (w : World) (u : Value) (t : TypeId) : VsIs (w.alloc (.cells #[u] t)) (.slice (some ⟨w.heap.size, 0, none⟩) 1 1) [u] :=
  ⟨_, 1, rfl, fun _ => ⟨_, rfl, cell_one_new w u t⟩⟩

section
variable {P : Program} (w : World)
theorem run_append_vals (base : Nat) (t ty e : TypeId) (i : TypeInfo) (z : Value) (by' : Nat) (ht : P.underlying t = some (.slice e)) (hi : P.info? e = some i) (hz : i.zero = some z)
    (hsize : i.size = 1) (hby : i.bytes = by') (hzs : z.cells.size = 1) (v : Value) (us news : List Value) (hown : w.ownsRow base e 1 v us.length us)
    (x : Value) (hx : VsIs w x news) (h1 : ∀ u ∈ news, u.oneCell' = true) (hlen : (us ++ news).length * by' ≤ 140737488355328) (hlm : (us ++ news).length ≤ maxLen) (hbase : base ≤ w.heap.size) :
    ∃ v' w', (Builtin.append_ #[t, t] ty #[v, x]).run P w = .ok v' w' ∧ w'.ownsRow base e 1 v' (us ++ news).length (us ++ news) ∧ w.grownBy w' v.ownBlock ∧
      (v'.ownBlock = v.ownBlock ∨ v'.ownBlock = some w.heap.size) := by
  obtain ⟨A, c, rfl, hr⟩ := hx
  have hl : (us ++ news).length = us.length + news.length := List.length_append
  cases A with
  | none =>
    have hb : news = [] := by
      rcases Nat.eq_zero_or_pos news.length with h0 | h0
      · exact List.eq_nil_of_length_eq_zero h0
      · obtain ⟨ad, h, _⟩ := hr h0
        cases h
    subst hb
    exact ⟨v, w, run_append_nothing w base t ty e i 1 ht hi v _ _ hown c, by simpa using hown, ⟨rfl, rfl, rfl, Nat.le_refl _, fun _ _ _ => rfl⟩, .inl rfl⟩
  | some ad =>
    have hcells : ∀ j u, news[j]? = some u → w.cell? (ad.add j) = some u := by
      intro j u hu
      rcases Nat.eq_zero_or_pos news.length with h0 | h0
      · rw [List.eq_nil_of_length_eq_zero h0] at hu
        simp at hu
      · obtain ⟨ad', h, hc⟩ := hr h0
        injection h with h
        subst h
        exact hc j u hu
    obtain ⟨v', w', hrun, h2, h3, _, h5⟩ := run_append_own_at (P := P) w base t ty e i z 1 by' ht hi hz hsize hby hzs (by omega) v us.length us hown ad news.length c news (by omega) hcells h1
      (by omega) (by rw [← hl]; exact hlen) hbase
    refine ⟨v', w', hrun, ?_, h3, h5⟩
    rw [hl]
    exact h2
theorem wpList_append_vals {ops : Array Oper} {rest : List Oper} {o : Oper} {a : Act} {Q : Exit → Act → World → Prop} (hgd : o.guard = none) (s x : Operand) (t : TypeId)
    (ho : o.op = .call { callee := .builtin .append, args := #[s, x], argTypes := #[t, t] })
    (base : Nat) (e : TypeId) (i : TypeInfo) (z : Value) (by' : Nat) (ht : P.underlying t = some (.slice e)) (hi : P.info? e = some i) (hz : i.zero = some z)
    (hsize : i.size = 1) (hby : i.bytes = by') (hzs : z.cells.size = 1) (v : Value) (us news : List Value) (hs : a.eval s = v) (hown : w.ownsRow base e 1 v us.length us)
    (xv : Value) (hxv : a.eval x = xv) (hx : VsIs w xv news) (h1 : ∀ u ∈ news, u.oneCell' = true) (hlen : (us ++ news).length * by' ≤ 140737488355328) (hlm : (us ++ news).length ≤ maxLen) (hbase : base ≤ w.heap.size)
    (h : ∀ v' w', w'.ownsRow base e 1 v' (us ++ news).length (us ++ news) → w.grownBy w' v.ownBlock → (v'.ownBlock = v.ownBlock ∨ v'.ownBlock = some w.heap.size) → wpList P ops Q rest (a.put o.dst v') w') :
    wpList P ops Q (o :: rest) a w := by
  refine wpList_plain hgd fun K hK => ?_
  obtain ⟨v', w', hr, h2, h3, h4⟩ := run_append_vals (P := P) w base t o.type e i z by' ht hi hz hsize hby hzs v us news hown xv hx h1 hlen hlm hbase
  unfold Oper.wp execOp
  simp only [ho, resolve, invoke, builtin, Sem.run_bind, Sem.run_pure, Result.andThen_ok, List.map_toArray, List.map_cons, List.map_nil, hs, hxv, hr]
  exact hK _ _ (h v' w' h2 h3 h4)
theorem step_append_vals {ops : Array Oper} {o : Oper} {a : Act} {K : Act → World → Prop} {Q : Exit → Act → World → Prop} {E : Prop} (hgd : o.guard = none) (s x : Operand) (t : TypeId)
    (ho : o.op = .call { callee := .builtin .append, args := #[s, x], argTypes := #[t, t] })
    (base : Nat) (e : TypeId) (i : TypeInfo) (z : Value) (by' : Nat) (ht : P.underlying t = some (.slice e)) (hi : P.info? e = some i) (hz : i.zero = some z)
    (hsize : i.size = 1) (hby : i.bytes = by') (hzs : z.cells.size = 1) (v : Value) (us news : List Value) (hs : a.eval s = v) (hown : w.ownsRow base e 1 v us.length us)
    (xv : Value) (hxv : a.eval x = xv) (hx : VsIs w xv news) (h1 : ∀ u ∈ news, u.oneCell' = true) (hlen : (us ++ news).length * by' ≤ 140737488355328) (hlm : (us ++ news).length ≤ maxLen) (hbase : base ≤ w.heap.size)
    (h : ∀ v' w', w'.ownsRow base e 1 v' (us ++ news).length (us ++ news) → w.grownBy w' v.ownBlock → (v'.ownBlock = v.ownBlock ∨ v'.ownBlock = some w.heap.size) → K (a.put o.dst v') w') :
    if Region.wanted o (yielded ops a.tmps) = true then Oper.wp P o a w K Q else E := by
  have hw : Region.wanted o (yielded ops a.tmps) = true := by simp [Region.wanted, hgd]
  rw [if_pos hw]
  obtain ⟨v', w', hr, h2, h3, h4⟩ := run_append_vals (P := P) w base t o.type e i z by' ht hi hz hsize hby hzs v us news hown xv hx h1 hlen hlm hbase
  unfold Oper.wp execOp
  simp only [ho, resolve, invoke, builtin, Sem.run_bind, Sem.run_pure, Result.andThen_ok, List.map_toArray, List.map_cons, List.map_nil, hs, hxv, hr]
  exact h v' w' h2 h3 h4
end
theorem Try.infoBytes : (Try.prog.info? 22).map (fun i => (i.zero, i.size, i.bytes)) = some (some (.slice none 0 0), 1, 24) := by kernel_rfl
end Go.Proofs.Ytfldgoggaadohaa
