/-
  What a message's fields are in bytes, and what bytes tell of them.
  Package msg: the adding of texts, lists, data and records.
  Package msg: put: whatever field is there.
-/
import Derived.Test.YtepiifbleoimkaaGreatDoorPackStat
namespace Go.Proofs.YtepiifbleoimkaaGreatDoor
open Go.RowKit

/-- A field's kind; a field. -/
inductive K where
  | num (n : Nat) | text | texts | qid | qids | data | stat
  deriving DecidableEq
inductive F where
  | num (n x : Nat) | text (l : List UInt8) | texts (L : List (List UInt8)) | qid (q : Q3) | qids (Q : List Q3) | data (b : List UInt8) | stat (s : S11)
def F.kind : F → K
  | .num n _ => .num n
  | .text _ => .text
  | .texts _ => .texts
  | .qid _ => .qid
  | .qids _ => .qids
  | .data _ => .data
  | .stat _ => .stat
/-- What a field's type allows. -/
def F.Ok : F → Prop
  | .num n x => 1 ≤ n ∧ n ≤ 8 ∧ x < 256 ^ n
  | .qid q => q.Ok
  | .qids Q => ∀ q ∈ Q, q.Ok
  | .stat s => s.Num
  | _ => True
/-- Not beyond what a walk needs. -/
def F.Few : F → Prop
  | .text l => l.length ≤ 1000
  | .texts L => L.length ≤ 1000 ∧ ∀ l ∈ L, l.length ≤ 1000
  | .qids Q => Q.length ≤ 1000
  | .data b => b.length ≤ 100000
  | .stat s => s.Few
  | _ => True
def qidsB (Q : List Q3) : List UInt8 := Q.flatMap qidB
/-- Why it may not go into a message; its bytes. -/
def fErr : F → Int
  | .text l => wrongOf l
  | .texts L => if 16 < L.length then 3 else wrongL L
  | .qids Q => if 16 < Q.length then 3 else 0
  | .data b => if 8192 < b.length then 3 else 0
  | .stat s => wrongL s.texts
  | _ => 0
def fB : F → List UInt8
  | .num n x => putB n x
  | .text l => textB l
  | .texts L => putB 2 L.length ++ textsB L
  | .qid q => qidB q
  | .qids Q => putB 2 Q.length ++ qidsB Q
  | .data b => putB 4 b.length ++ b
  | .stat s => putB 2 s.size ++ recB s
def fErrL : List F → Int
  | [] => 0
  | f :: r => if fErr f = 0 then fErrL r else fErr f
def fBL (l : List F) : List UInt8 := l.flatMap fB

/-- What bytes tell: a number; as many as that; a qid; one of a kind; one of each kind. -/
def tkN (n : Nat) (bs : List UInt8) : Option (Nat × List UInt8) := if (takeSt (n : Int) bs 0).2.2 = 0 then some ((takeSt (n : Int) bs 0).1, (takeSt (n : Int) bs 0).2.1) else none
def tkRaw (n : Nat) (bs : List UInt8) : Option (List UInt8 × List UInt8) := if (rawSt (n : Int) bs 0).2.2 = 0 then some ((rawSt (n : Int) bs 0).1, (rawSt (n : Int) bs 0).2.1) else none
def tkQ (bs : List UInt8) : Option (Q3 × List UInt8) := if (qTake bs 0).2.2 = 0 then some ((qTake bs 0).1, (qTake bs 0).2.1) else none
def tkMany {α : Type} (one : List UInt8 → Option (α × List UInt8)) : Nat → List UInt8 → Option (List α × List UInt8)
  | 0, bs => some ([], bs)
  | n + 1, bs => (one bs).bind fun x => (tkMany one n x.2).map fun y => (x.1 :: y.1, y.2)
def tkRec (b : List UInt8) : Option S11 := match firstOf b with
  | .ok (s, []) => some s
  | _ => none
def tkF : K → List UInt8 → Option (F × List UInt8)
  | .num n, bs => (tkN n bs).map fun x => (.num n x.1, x.2)
  | .text, bs => (textSt bs 0).map fun x => (.text x.1, x.2)
  | .texts, bs => (tkN 2 bs).bind fun n => if 16 < n.1 then none else (tkMany (fun b => textSt b 0) n.1 n.2).map fun x => (.texts x.1, x.2)
  | .qid, bs => (tkQ bs).map fun x => (.qid x.1, x.2)
  | .qids, bs => (tkN 2 bs).bind fun n => if 16 < n.1 then none else (tkMany tkQ n.1 n.2).map fun x => (.qids x.1, x.2)
  | .data, bs => (tkN 4 bs).bind fun n => if 8192 < n.1 then none else (tkRaw n.1 n.2).map fun x => (.data x.1, x.2)
  | .stat, bs => (tkN 2 bs).bind fun n => (tkRaw n.1 n.2).bind fun x => (tkRec x.1).map fun s => (.stat s, x.2)
def tkL : List K → List UInt8 → Option (List F × List UInt8)
  | [], bs => some ([], bs)
  | k :: r, bs => (tkF k bs).bind fun x => (tkL r x.2).map fun y => (x.1 :: y.1, y.2)

/-! There and back. -/
theorem tkN_item {n x : Nat} (rest : List UInt8) (h1 : 1 ≤ n) (h8 : n ≤ 8) (hx : x < 256 ^ n) : tkN n (putB n x ++ rest) = some (x, rest) := by
  rw [tkN, take_num n x rest h1 h8 hx]
  rfl
theorem tkRaw_item (b rest : List UInt8) : tkRaw b.length (b ++ rest) = some (b, rest) := by
  rw [tkRaw, raw_item]
  rfl
theorem tkQ_item {q : Q3} (rest : List UInt8) (h : q.Ok) : tkQ (qidB q ++ rest) = some (q, rest) := by
  rw [tkQ, qTake_item q rest h]
  rfl
theorem tkMany_item {α : Type} {one : List UInt8 → Option (α × List UInt8)} {B : α → List UInt8} (rest : List UInt8) : ∀ (L : List α), (∀ x ∈ L, ∀ r, one (B x ++ r) = some (x, r)) → tkMany one L.length (L.flatMap B ++ rest) = some (L, rest)
  | [], _ => rfl
  | x :: L, h => by
    rw [List.length_cons, tkMany, List.flatMap_cons, List.append_assoc, h x (by simp)]
    simp [tkMany_item rest L (fun y hy => h y (by simp [hy]))]
theorem wrongL_mem {L : List (List UInt8)} (h : wrongL L = 0) : ∀ l ∈ L, wrongOf l = 0 := by
  induction L with
  | nil => simp
  | cons a L ih =>
    rw [wrongL] at h
    split at h
    · rename_i h0
      intro l hl
      rcases List.mem_cons.1 hl with rfl | hl
      · exact h0
      · exact ih h l hl
    · rename_i h0
      exact absurd h h0
theorem wrongL_of {L : List (List UInt8)} (h : ∀ l ∈ L, wrongOf l = 0) : wrongL L = 0 := by
  induction L with
  | nil => rfl
  | cons a L ih => rw [wrongL, if_pos (h a (by simp)), ih (fun l hl => h l (by simp [hl]))]
theorem tkRec_item {s : S11} (h : s.Num) (h0 : wrongL s.texts = 0) : tkRec (recB s) = some s := by
  have := firstOf_item [] h h0
  rw [List.append_nil] at this
  unfold tkRec
  rw [this]
theorem size_short {s : S11} (h : wrongL s.texts = 0) : s.size ≤ 400 := by
  obtain ⟨h1, h2, h3, h4⟩ := wrong4 h
  have := wrongOf_short h1
  have := wrongOf_short h2
  have := wrongOf_short h3
  have := wrongOf_short h4
  unfold S11.size
  omega
theorem tkF_item {f : F} (rest : List UInt8) (h : f.Ok) (h0 : fErr f = 0) : tkF f.kind (fB f ++ rest) = some (f, rest) := by
  cases f with
  | num n x => simp [F.kind, tkF, fB, tkN_item rest h.1 h.2.1 h.2.2]
  | text l => simp [F.kind, tkF, fB, textSt_item (rest := rest) h0]
  | texts L =>
    have hl : L.length ≤ 16 := by
      simp only [fErr] at h0
      split at h0
      · cases h0
      · omega
    have hw : wrongL L = 0 := by
      simp only [fErr] at h0
      rwa [if_neg (by omega)] at h0
    have hm := wrongL_mem hw
    simp only [F.kind, tkF, fB, List.append_assoc]
    rw [tkN_item _ (by omega) (by omega) (by omega)]
    simp only [Option.bind_some, if_neg (Nat.not_lt.2 hl)]
    rw [show textsB L = L.flatMap textB from rfl, tkMany_item rest L (fun x hx r => textSt_item (hm x hx))]
    rfl
  | qid q => simp [F.kind, tkF, fB, tkQ_item rest h]
  | qids Q =>
    have hl : Q.length ≤ 16 := by
      simp only [fErr] at h0
      split at h0
      · cases h0
      · omega
    simp only [F.kind, tkF, fB, List.append_assoc]
    rw [tkN_item _ (by omega) (by omega) (by omega)]
    simp only [Option.bind_some, if_neg (Nat.not_lt.2 hl)]
    rw [show qidsB Q = Q.flatMap qidB from rfl, tkMany_item rest Q (fun x hx r => tkQ_item r (h x hx))]
    rfl
  | data b =>
    have hl : b.length ≤ 8192 := by
      simp only [fErr] at h0
      split at h0
      · cases h0
      · omega
    simp only [F.kind, tkF, fB, List.append_assoc]
    rw [tkN_item _ (by omega) (by omega) (by omega)]
    simp only [Option.bind_some, if_neg (Nat.not_lt.2 hl)]
    rw [tkRaw_item]
    rfl
  | stat s =>
    have hz := size_short h0
    have hr := recB_length h0
    simp only [F.kind, tkF, fB, List.append_assoc]
    rw [tkN_item _ (by omega) (by omega) (by omega)]
    simp only [Option.bind_some]
    rw [← hr, tkRaw_item]
    simp only [Option.bind_some]
    rw [tkRec_item h h0]
    rfl
theorem fErrL_cons {f : F} {l : List F} (h : fErrL (f :: l) = 0) : fErr f = 0 ∧ fErrL l = 0 := by
  rw [fErrL] at h
  split at h
  · rename_i h0
    exact ⟨h0, h⟩
  · rename_i h0
    exact absurd h h0
theorem tkL_item (rest : List UInt8) : ∀ (l : List F), (∀ f ∈ l, f.Ok) → fErrL l = 0 → tkL (l.map F.kind) (fBL l ++ rest) = some (l, rest)
  | [], _, _ => rfl
  | f :: l, h, h0 => by
    obtain ⟨h1, h2⟩ := fErrL_cons h0
    rw [List.map_cons, tkL, show fBL (f :: l) = fB f ++ fBL l from by simp [fBL], List.append_assoc, tkF_item _ (h f (by simp)) h1]
    simp [tkL_item rest l (fun g hg => h g (by simp [hg])) h2]

/-! What is one has just those bytes. -/
theorem putB_cons (n x : Nat) : putB (n + 1) x = UInt8.ofNat x :: putB n (x / 256) := by
  unfold putB
  rw [List.range_succ_eq_map, List.map_cons, List.map_map]
  congr 1
  apply List.map_congr_left
  intro j _
  simp only [Function.comp]
  congr 1
  rw [show 8 * (j + 1) = 8 + 8 * j from by omega, Nat.shiftRight_add]
  congr 1
  rw [Nat.shiftRight_eq_div_pow]
theorem putB_le (l : List UInt8) : putB l.length (le l) = l := by
  induction l with
  | nil => rfl
  | cons c l ih =>
    rw [List.length_cons, putB_cons, le]
    have hc := c.toNat_lt
    rw [show (c.toNat + 256 * le l) / 256 = le l from by omega, ih]
    congr 1
    apply UInt8.toNat_inj.1
    rw [UInt8.toNat_ofNat']
    omega
theorem tkN_some {n x : Nat} {bs r : List UInt8} (h1 : 1 ≤ n) (h8 : n ≤ 8) (h : tkN n bs = some (x, r)) : bs = putB n x ++ r ∧ x < 256 ^ n := by
  unfold tkN at h
  split at h
  · rename_i h0
    injection h with h
    injection h with ha hb
    by_cases hl : (bs.length : Int) < n
    · rw [takeSt_short _ _ (by omega) (by omega) hl] at h0
      cases h0
    · rw [takeSt_long _ _ (by omega) (by omega) (by omega)] at ha hb
      simp only [Int.toNat_natCast] at ha hb
      have hlen : (bs.take n).length = n := by rw [List.length_take]; omega
      have hp := putB_le (bs.take n)
      rw [hlen, ha] at hp
      refine ⟨?_, ?_⟩
      · rw [hp, ← hb, List.take_append_drop]
      · have := le_lt (bs.take n)
        rw [hlen, ha] at this
        exact this
  · cases h
theorem tkRaw_some {n : Nat} {bs b r : List UInt8} (h : tkRaw n bs = some (b, r)) : bs = b ++ r ∧ b.length = n := by
  unfold tkRaw at h
  split at h
  · rename_i h0
    injection h with h
    injection h with ha hb
    have hs : (rawSt (n : Int) bs 0) = (bs.take n, bs.drop n, 0) ∧ n ≤ bs.length := by
      unfold rawSt at h0 ⊢
      rw [if_neg (by simp), if_neg (by omega)] at h0 ⊢
      split at h0
      · cases h0
      · rename_i hl
        rw [if_neg hl]
        exact ⟨by simp, by omega⟩
    rw [hs.1] at ha hb
    simp only at ha hb
    subst ha hb
    exact ⟨(List.take_append_drop _ _).symm, by rw [List.length_take]; omega⟩
  · cases h
theorem take2_some {n x : Nat} {bs r : List UInt8} (h1 : 1 ≤ n) (h8 : n ≤ 8) (h0 : (takeSt (n : Int) bs 0).2.2 = 0) (hx : (takeSt (n : Int) bs 0).1 = x) (hr : (takeSt (n : Int) bs 0).2.1 = r) : bs = putB n x ++ r :=
  (tkN_some h1 h8 (by rw [tkN, if_pos h0, hx, hr])).1
theorem takeSt_bad {n : Int} {bs : List UInt8} {er : Int} (h : er ≠ 0) : (takeSt n bs er).2.2 ≠ 0 := by rw [takeSt_err n bs er h]; exact h
theorem tkQ_some {bs r : List UInt8} {q : Q3} (h : tkQ bs = some (q, r)) : bs = qidB q ++ r ∧ q.Ok := by
  unfold tkQ at h
  split at h
  · rename_i h0
    injection h with h
    injection h with ha hb
    refine ⟨?_, by rw [← ha]; exact qTake_ok _ _⟩
    unfold qTake at h0 ha hb
    simp only at h0 ha hb
    rw [if_pos h0] at ha
    have h2 : (takeSt 4 (takeSt 1 bs 0).2.1 (takeSt 1 bs 0).2.2).2.2 = 0 := Decidable.byContradiction fun hn => takeSt_bad hn h0
    have h1 : (takeSt 1 bs 0).2.2 = 0 := Decidable.byContradiction fun hn => takeSt_bad hn h2
    rw [h1] at h0 ha hb h2
    rw [h2] at h0 ha hb
    have e1 := take2_some (n := 1) (by omega) (by omega) h1 rfl rfl
    have e2 := take2_some (n := 4) (by omega) (by omega) h2 rfl rfl
    have e3 := take2_some (n := 8) (by omega) (by omega) h0 rfl rfl
    subst ha
    simp only [qidB]
    rw [← hb]
    simp only [Int.cast_ofNat_Int] at e1 e2 e3
    rw [List.append_assoc, List.append_assoc]
    exact e1.trans (by rw [← e3, ← e2])
  · cases h
theorem textSt_bytes {bs r l : List UInt8} (h : textSt bs 0 = some (l, r)) : bs = textB l ++ r ∧ wrongOf l = 0 := by
  obtain ⟨h1, h2, h3, h4⟩ := textSt_some h
  refine ⟨?_, h4⟩
  have hz := (tans_zero h1).1
  have h5 : (tst bs 0).1 = l := by
    rw [h2]
    unfold tans at h1 ⊢
    rw [if_neg (by simpa using hz)] at h1 ⊢
    split at h1
    · rename_i hw
      exact absurd h1 hw
    · rename_i hw
      rw [if_neg hw]
  unfold tst at hz h3 h5
  have h6 : (takeSt 2 bs 0).2.2 = 0 := Decidable.byContradiction fun hn => by
    rw [rawSt, if_pos hn] at hz
    exact hn hz
  rw [h6] at hz h3 h5
  have e1 := take2_some (n := 2) (by omega) (by omega) h6 rfl rfl
  have e2 := tkRaw_some (n := (takeSt 2 bs 0).1) (by rw [tkRaw, if_pos hz])
  rw [← h3] at e2
  rw [h5] at e2
  rw [textB, if_pos h4, show putI 2 (l.length : Int) = putB 2 l.length from putI_of 2 _ (by omega) (by omega), e2.2, List.append_assoc, ← e2.1]
  exact e1
theorem numSt_bytes {bs : List UInt8} (h : (numSt bs).2.2 = 0) : bs = numsB (numSt bs).1 ++ (numSt bs).2.1 := by
  unfold numSt at h ⊢
  simp only at h ⊢
  obtain ⟨k, hk⟩ : ∃ k, k = takeSt 2 bs 0 := ⟨_, rfl⟩
  rw [← hk] at h ⊢
  obtain ⟨d, hd⟩ : ∃ d, d = takeSt 4 k.2.1 k.2.2 := ⟨_, rfl⟩
  rw [← hd] at h ⊢
  obtain ⟨q, hq⟩ : ∃ q, q = qTake d.2.1 d.2.2 := ⟨_, rfl⟩
  rw [← hq] at h ⊢
  obtain ⟨m, hm⟩ : ∃ m, m = takeSt 4 q.2.1 q.2.2 := ⟨_, rfl⟩
  rw [← hm] at h ⊢
  obtain ⟨a, ha⟩ : ∃ a, a = takeSt 4 m.2.1 m.2.2 := ⟨_, rfl⟩
  rw [← ha] at h ⊢
  obtain ⟨c, hc⟩ : ∃ c, c = takeSt 4 a.2.1 a.2.2 := ⟨_, rfl⟩
  rw [← hc] at h ⊢
  have h7 : c.2.2 = 0 := Decidable.byContradiction fun hn => takeSt_bad hn h
  have h6 : a.2.2 = 0 := Decidable.byContradiction fun hn => by rw [hc] at h7; exact takeSt_bad hn h7
  have h5 : m.2.2 = 0 := Decidable.byContradiction fun hn => by rw [ha] at h6; exact takeSt_bad hn h6
  have h4 : q.2.2 = 0 := Decidable.byContradiction fun hn => by rw [hm] at h5; exact takeSt_bad hn h5
  have h3 : d.2.2 = 0 := Decidable.byContradiction fun hn => by
    rw [hq] at h4
    unfold qTake at h4
    simp only at h4
    exact takeSt_bad (takeSt_bad (takeSt_bad hn)) h4
  have h2 : k.2.2 = 0 := Decidable.byContradiction fun hn => by rw [hd] at h3; exact takeSt_bad hn h3
  have e1 := take2_some (n := 2) (bs := bs) (x := k.1) (r := k.2.1) (by omega) (by omega) (by rw [hk] at h2; exact h2) (by rw [hk]; rfl) (by rw [hk]; rfl)
  have e2 := take2_some (n := 4) (bs := k.2.1) (x := d.1) (r := d.2.1) (by omega) (by omega) (by rw [hd, h2] at h3; exact h3) (by rw [hd, h2]; rfl) (by rw [hd, h2]; rfl)
  have e3 := (tkQ_some (bs := d.2.1) (q := q.1) (r := q.2.1) (by rw [hq, h3] at h4; rw [tkQ, if_pos h4, hq, h3])).1
  have e4 := take2_some (n := 4) (bs := q.2.1) (x := m.1) (r := m.2.1) (by omega) (by omega) (by rw [hm, h4] at h5; exact h5) (by rw [hm, h4]; rfl) (by rw [hm, h4]; rfl)
  have e5 := take2_some (n := 4) (bs := m.2.1) (x := a.1) (r := a.2.1) (by omega) (by omega) (by rw [ha, h5] at h6; exact h6) (by rw [ha, h5]; rfl) (by rw [ha, h5]; rfl)
  have e6 := take2_some (n := 4) (bs := a.2.1) (x := c.1) (r := c.2.1) (by omega) (by omega) (by rw [hc, h6] at h7; exact h7) (by rw [hc, h6]; rfl) (by rw [hc, h6]; rfl)
  rw [h7] at h ⊢
  have e7 := take2_some (n := 8) (bs := c.2.1) (by omega) (by omega) h rfl rfl
  simp only [numsB, List.append_assoc]
  refine e1.trans (congrArg _ (e2.trans (congrArg _ (e3.trans (congrArg _ (e4.trans (congrArg _ (e5.trans (congrArg _ (e6.trans (congrArg _ ?_)))))))))))
  exact e7
theorem recOf_bytes {bs : List UInt8} {s : S11} (h : recOf bs = some s) : bs = statB s := by
  have hn := (recOf_some h).1
  unfold recOf at h
  obtain ⟨⟨n, r1⟩, h1, h⟩ := Option.bind_eq_some_iff.1 h
  obtain ⟨⟨u, r2⟩, h2, h⟩ := Option.bind_eq_some_iff.1 h
  obtain ⟨⟨g, r3⟩, h3, h⟩ := Option.bind_eq_some_iff.1 h
  obtain ⟨⟨x, r4⟩, h4, h⟩ := Option.bind_eq_some_iff.1 h
  have z : (numSt bs).2.2 = 0 := Decidable.byContradiction fun hb => by
    have := (textSt_some h1).1
    have := (tans_zero this).1
    unfold tst at this
    have hb2 : (takeSt 2 (numSt bs).2.1 (numSt bs).2.2).2.2 ≠ 0 := takeSt_bad hb
    rw [rawSt, if_pos hb2] at this
    exact hb2 this
  rw [z] at h1
  have b0 := numSt_bytes z
  have b1 := (textSt_bytes h1).1
  have b2 := (textSt_bytes h2).1
  have b3 := (textSt_bytes h3).1
  have b4 := (textSt_bytes h4).1
  simp only at b2 b3 b4 h
  split at h
  · rename_i hr
    injection h with h
    subst hr
    rw [List.append_nil] at b4
    subst h
    simp only [statB, S11.texts, textsB, List.flatMap_cons, List.flatMap_nil, List.append_nil]
    refine b0.trans ?_
    rw [b1, b2, b3, b4]
    rfl
  · cases h
theorem tkRec_some {b : List UInt8} {s : S11} (h : tkRec b = some s) : b = recB s ∧ s.Num ∧ wrongL s.texts = 0 := by
  unfold tkRec at h
  split at h
  · rename_i s' hf
    injection h with h
    subst h
    obtain ⟨_, h1, h2, h3⟩ := firstOf_len hf
    obtain ⟨h4, h5⟩ := recOf_some h1
    refine ⟨?_, h4, h5⟩
    have e0 := recOf_bytes h1
    unfold tst at h2 h3 e0
    have h6 : (takeSt 2 b 0).2.2 = 0 := Decidable.byContradiction fun hn => by
      rw [rawSt, if_pos hn] at h2
      exact hn h2
    rw [h6] at h2 h3 e0
    have e1 := take2_some (n := 2) (by omega) (by omega) h6 rfl rfl
    have e2 := tkRaw_some (n := (takeSt 2 b 0).1) (by rw [tkRaw, if_pos h2])
    rw [← h3, e0, List.append_nil] at e2
    have hl := statB_length h5
    rw [recB, ← hl, e2.2, ← e2.1]
    exact e1
  · cases h
theorem tkMany_some {α : Type} {one : List UInt8 → Option (α × List UInt8)} {B : α → List UInt8} {P : α → Prop} (h1 : ∀ bs x r, one bs = some (x, r) → bs = B x ++ r ∧ P x) :
    ∀ (n : Nat) (bs : List UInt8) (L : List α) (r : List UInt8), tkMany one n bs = some (L, r) → bs = L.flatMap B ++ r ∧ L.length = n ∧ ∀ x ∈ L, P x
  | 0, bs, L, r, h => by
    injection h with h
    injection h with ha hb
    subst ha hb
    simp
  | n + 1, bs, L, r, h => by
    rw [tkMany] at h
    obtain ⟨⟨x, r1⟩, hx, h⟩ := Option.bind_eq_some_iff.1 h
    obtain ⟨⟨L2, r2⟩, hy, h⟩ := Option.map_eq_some_iff.1 h
    injection h with ha hb
    subst ha hb
    obtain ⟨e1, p1⟩ := h1 _ _ _ hx
    obtain ⟨e2, l2, p2⟩ := tkMany_some h1 n _ _ _ hy
    simp only at e2
    refine ⟨?_, by simp [l2], ?_⟩
    · rw [List.flatMap_cons, List.append_assoc, ← e2]
      exact e1
    · intro y hy
      rcases List.mem_cons.1 hy with rfl | hy
      · exact p1
      · exact p2 y hy
/-- What a kind may be. -/
def K.Ok : K → Prop
  | .num n => 1 ≤ n ∧ n ≤ 8
  | _ => True
theorem tkF_some {k : K} {bs r : List UInt8} {f : F} (hk : k.Ok) (h : tkF k bs = some (f, r)) : bs = fB f ++ r ∧ f.kind = k ∧ fErr f = 0 ∧ f.Ok ∧ f.Few := by
  cases k with
  | num n =>
    obtain ⟨⟨x, r1⟩, hx, h⟩ := Option.map_eq_some_iff.1 h
    injection h with ha hb
    subst ha hb
    obtain ⟨e, l⟩ := tkN_some hk.1 hk.2 hx
    exact ⟨e, rfl, rfl, ⟨hk.1, hk.2, l⟩, trivial⟩
  | text =>
    obtain ⟨⟨x, r1⟩, hx, h⟩ := Option.map_eq_some_iff.1 h
    injection h with ha hb
    subst ha hb
    obtain ⟨e, l⟩ := textSt_bytes hx
    exact ⟨e, rfl, l, trivial, by have := wrongOf_short l; show x.length ≤ 1000; omega⟩
  | texts =>
    obtain ⟨⟨n, r1⟩, hx, h⟩ := Option.bind_eq_some_iff.1 h
    split at h
    · cases h
    · rename_i hn
      obtain ⟨⟨L, r2⟩, hy, h⟩ := Option.map_eq_some_iff.1 h
      injection h with ha hb
      subst ha hb
      simp only at hy
      obtain ⟨e, _⟩ := tkN_some (by omega) (by omega) hx
      obtain ⟨e2, l2, p2⟩ := tkMany_some (B := textB) (P := fun l => wrongOf l = 0) (fun bs x r hb => textSt_bytes hb) _ _ _ _ hy
      simp only at e2 l2 hn
      show _ = fB (.texts L) ++ r2 ∧ K.texts = _ ∧ fErr (.texts L) = 0 ∧ True ∧ L.length ≤ 1000 ∧ ∀ l ∈ L, l.length ≤ 1000
      refine ⟨?_, rfl, ?_, trivial, by omega, ?_⟩
      · rw [e, fB, l2, List.append_assoc, textsB, ← e2]
      · rw [fErr, if_neg (by omega)]
        exact wrongL_of p2
      · intro l hl
        have := wrongOf_short (p2 l hl)
        omega
  | qid =>
    obtain ⟨⟨x, r1⟩, hx, h⟩ := Option.map_eq_some_iff.1 h
    injection h with ha hb
    subst ha hb
    obtain ⟨e, l⟩ := tkQ_some hx
    exact ⟨e, rfl, rfl, l, trivial⟩
  | qids =>
    obtain ⟨⟨n, r1⟩, hx, h⟩ := Option.bind_eq_some_iff.1 h
    split at h
    · cases h
    · rename_i hn
      obtain ⟨⟨L, r2⟩, hy, h⟩ := Option.map_eq_some_iff.1 h
      injection h with ha hb
      subst ha hb
      simp only at hy
      obtain ⟨e, _⟩ := tkN_some (by omega) (by omega) hx
      obtain ⟨e2, l2, p2⟩ := tkMany_some (B := qidB) (P := fun q => q.Ok) (fun bs x r hb => tkQ_some hb) _ _ _ _ hy
      simp only at e2 l2 hn
      show _ = fB (.qids L) ++ r2 ∧ K.qids = _ ∧ fErr (.qids L) = 0 ∧ (∀ q ∈ L, q.Ok) ∧ L.length ≤ 1000
      refine ⟨?_, rfl, ?_, p2, ?_⟩
      · rw [e, fB, l2, List.append_assoc, qidsB, ← e2]
      · rw [fErr, if_neg (by omega)]
      · omega
  | data =>
    obtain ⟨⟨n, r1⟩, hx, h⟩ := Option.bind_eq_some_iff.1 h
    split at h
    · cases h
    · rename_i hn
      obtain ⟨⟨b, r2⟩, hy, h⟩ := Option.map_eq_some_iff.1 h
      injection h with ha hb
      subst ha hb
      simp only at hy
      obtain ⟨e, _⟩ := tkN_some (by omega) (by omega) hx
      obtain ⟨e2, l2⟩ := tkRaw_some hy
      simp only at e2 l2 hn
      show _ = fB (.data b) ++ r2 ∧ K.data = _ ∧ fErr (.data b) = 0 ∧ True ∧ b.length ≤ 100000
      refine ⟨?_, rfl, ?_, trivial, ?_⟩
      · rw [e, fB, l2, List.append_assoc, ← e2]
      · rw [fErr, if_neg (by omega)]
      · omega
  | stat =>
    obtain ⟨⟨n, r1⟩, hx, h⟩ := Option.bind_eq_some_iff.1 h
    obtain ⟨⟨b, r2⟩, hy, h⟩ := Option.bind_eq_some_iff.1 h
    obtain ⟨s, hz, h⟩ := Option.map_eq_some_iff.1 h
    injection h with ha hb
    subst ha hb
    obtain ⟨e, _⟩ := tkN_some (by omega) (by omega) hx
    obtain ⟨e2, l2⟩ := tkRaw_some hy
    obtain ⟨e3, p3, p4⟩ := tkRec_some hz
    simp only at e2 l2 e3
    refine ⟨?_, rfl, p4, p3, few_of_wrong p4⟩
    have hl := recB_length p4
    rw [e, fB, List.append_assoc, ← e3, ← e2, ← hl, ← e3, l2]
theorem tkL_some : ∀ (ks : List K) (bs r : List UInt8) (l : List F), (∀ k ∈ ks, k.Ok) → tkL ks bs = some (l, r) → bs = fBL l ++ r ∧ l.map F.kind = ks ∧ fErrL l = 0 ∧ ∀ f ∈ l, f.Ok ∧ f.Few
  | [], bs, r, l, _, h => by
    injection h with h
    injection h with ha hb
    subst ha hb
    exact ⟨by simp [fBL], rfl, rfl, by simp⟩
  | k :: ks, bs, r, l, hk, h => by
    rw [tkL] at h
    obtain ⟨⟨x, r1⟩, hx, h⟩ := Option.bind_eq_some_iff.1 h
    obtain ⟨⟨L2, r2⟩, hy, h⟩ := Option.map_eq_some_iff.1 h
    injection h with ha hb
    subst ha hb
    obtain ⟨e1, k1, z1, o1, f1⟩ := tkF_some (hk k (by simp)) hx
    obtain ⟨e2, k2, z2, p2⟩ := tkL_some ks _ _ _ (fun k h => hk k (by simp [h])) hy
    simp only at e2 k1
    refine ⟨?_, by simp [k1, k2], by rw [fErrL, if_pos z1, z2], ?_⟩
    · rw [show fBL (x :: L2) = fB x ++ fBL L2 from by simp [fBL], List.append_assoc, ← e2]
      exact e1
    · intro f hf
      rcases List.mem_cons.1 hf with rfl | hf
      · exact ⟨o1, f1⟩
      · exact p2 f hf
end Go.Proofs.YtepiifbleoimkaaGreatDoor
namespace Go.Proofs.YtepiifbleoimkaaGreatDoor
open Go.RowKit
set_option maxRecDepth 100000

/-- A slice that reads as texts; as qids. -/
def StrsAt (w : World) (lo hi : Nat) (v : Value) (L : List (List UInt8)) : Prop := ∃ A c, v = .slice A L.length c ∧ L.length ≤ c ∧ c ≤ maxLen ∧
  (0 < L.length → ∃ ad, A = some ad ∧ lo ≤ ad.block ∧ ad.block < hi ∧ ∀ j (h : j < L.length), w.cell? (ad.add j) = some (.string (strOf L[j])))
def QdsAt (w : World) (lo hi : Nat) (v : Value) (Q : List Q3) : Prop := ∃ A c, v = .slice A Q.length c ∧ Q.length ≤ c ∧ c ≤ maxLen ∧
  (0 < Q.length → ∃ ad, A = some ad ∧ lo ≤ ad.block ∧ ad.block < hi ∧ ∀ j (h : j < Q.length), w.cell? (ad.add (j * 3)) = some (.int .u8 (Q[j].t : Int)) ∧
    w.cell? ⟨(ad.add (j * 3)).block, (ad.add (j * 3)).off + 1, none⟩ = some (.int .u32 (Q[j].v : Int)) ∧ w.cell? ⟨(ad.add (j * 3)).block, (ad.add (j * 3)).off + 2, none⟩ = some (.int .u64 (Q[j].p : Int)))
theorem StrsAt.keep {w w' : World} {lo hi : Nat} {v : Value} {L : List (List UInt8)} (h : StrsAt w lo hi v L) (hk : ∀ p : Addr, lo ≤ p.block → p.block < hi → w'.cell? p = w.cell? p) : StrsAt w' lo hi v L := by
  obtain ⟨A, c, e, h1, h2, h3⟩ := h
  refine ⟨A, c, e, h1, h2, fun hn => ?_⟩
  obtain ⟨ad, e2, b1, b2, hc⟩ := h3 hn
  exact ⟨ad, e2, b1, b2, fun j hj => (hk _ (by rw [addr_block]; exact b1) (by rw [addr_block]; exact b2)).trans (hc j hj)⟩
theorem QdsAt.keep {w w' : World} {lo hi : Nat} {v : Value} {Q : List Q3} (h : QdsAt w lo hi v Q) (hk : ∀ p : Addr, lo ≤ p.block → p.block < hi → w'.cell? p = w.cell? p) : QdsAt w' lo hi v Q := by
  obtain ⟨A, c, e, h1, h2, h3⟩ := h
  refine ⟨A, c, e, h1, h2, fun hn => ?_⟩
  obtain ⟨ad, e2, b1, b2, hc⟩ := h3 hn
  have hb : ∀ k, lo ≤ (ad.add k).block ∧ (ad.add k).block < hi := fun k => by rw [addr_block]; exact ⟨b1, b2⟩
  refine ⟨ad, e2, b1, b2, fun j hj => ?_⟩
  obtain ⟨c0, c1, c2⟩ := hc j hj
  exact ⟨(hk _ (hb _).1 (hb _).2).trans c0, (hk ⟨(ad.add (j * 3)).block, (ad.add (j * 3)).off + 1, none⟩ (hb (j * 3)).1 (hb (j * 3)).2).trans c1, (hk ⟨(ad.add (j * 3)).block, (ad.add (j * 3)).off + 2, none⟩ (hb (j * 3)).1 (hb (j * 3)).2).trans c2⟩
theorem SlIs.keep {w w' : World} {lo hi : Nat} {v : Value} {bs : List UInt8} (h : SlIs w lo hi v bs) (hk : ∀ p : Addr, lo ≤ p.block → p.block < hi → w'.cell? p = w.cell? p) : SlIs w' lo hi v bs := by
  obtain ⟨A, c, e, h1, h2, h3⟩ := h
  exact ⟨A, c, e, h1, h2, h3.keep hk⟩
/-- What keeps the cells of blocks from lo on and below hi. -/
theorem Only.keeps {S : Nat → Prop} {a b : World} (k : Only S a b) {lo hi : Nat} (hh : hi ≤ a.heap.size) (hn : ∀ i, lo ≤ i → i < hi → ¬ S i) : ∀ p : Addr, lo ≤ p.block → p.block < hi → b.cell? p = a.cell? p :=
  fun p h1 h2 => k.cell (by omega) (hn _ h1 h2)

/-- What a field's adding leaves: its bytes, or its error. -/
def PutStep (w : World) (B g : Nat) (v : Value) (bs : List UInt8) (er : Int) (more : List UInt8) (e : Ending) (w' : World) : Prop :=
  (er = 0 ∧ OutStep w B g v (bs ++ more) e w') ∨ (er ≠ 0 ∧ e = .panicked [{ v := .iface 35 (.int .i64 er), recovered := false }] ∧ Only (Foot g v) w w')

set_option maxHeartbeats 1000000 in
theorem puttext_any (B g : Nat) (v : Value) (bs l : List UInt8) (w : World) (h : OutAt w B g v bs) (hT : Tabs w) (hl : l.length ≤ 1000) (hb : bs.length ≤ 1000000) :
    Calls Tryz.prog 51 #[.pointer (some ⟨g, 0, none⟩), .string (strOf l)] w (PutStep w B g v bs (wrongOf l) (textB l)) := by
  have C := Lib.hid (tput_any B g v bs l w h hT (by omega) (by omega))
  unfold TPut at C
  by_cases hz : wrongOf l = 0
  · have R : Hid (∀ w', (∃ v', OutAt w' B g v' (bs ++ textB l) ∧ Only (Foot g v) w w' ∧ ∀ i, v'.ownBlock = some i → v.ownBlock = some i ∨ w.heap.size ≤ i) → PutStep w B g v bs (wrongOf l) (textB l) (.returned (.tuple #[])) w') := by
      rintro w' ⟨v', a, b, c⟩
      exact .inl ⟨hz, v', rfl, a, b, c⟩
    rw [hz] at C R ⊢
    clear h hT hz
    go_enter Tryz.func51, Tryz.ntmps51
    go_wp2_with fail
    refine C.out.mono ?_
    rintro e w1 ⟨v', rfl, st⟩
    have R1 := Lib.hid (R.out w1 ⟨v', st⟩)
    clear st R C
    go_wp2_with fail
    refine (must_yes 0 w1).mono ?_
    rintro e w' ⟨rfl, rfl⟩
    go_wp2
    go_end0
    exact R1.out
  · have R : Hid (∀ w', Only (Foot g v) w w' → PutStep w B g v bs (wrongOf l) (textB l) (.panicked [{ v := .iface 35 (.int .i64 (wrongOf l)), recovered := false }]) w') := fun w' k => .inr ⟨hz, rfl, k⟩
    have hzb : (wrongOf l == 0) = false := by simpa using hz
    clear h hT hz
    generalize wrongOf l = er at C R hzb
    go_enter Tryz.func51, Tryz.ntmps51
    go_wp2_with fail
    refine C.out.mono ?_
    rintro e w1 ⟨v', rfl, _, st, _⟩
    have R1 := Lib.hid (R.out w1 st)
    clear st R C
    go_wp2_with fail
    refine (must_no er w1).mono ?_
    rintro e w' ⟨rfl, rfl⟩
    go_wp2
    exact ⟨rfl, R1.out⟩

set_option maxHeartbeats 1000000 in
theorem putdata_any (B g : Nat) (v x : Value) (bs b : List UInt8) (lo hi : Nat) (w : World) (h : OutAt w B g v bs) (hx : SlIs w lo hi x b) (hhi : hi ≤ B) (hl : b.length ≤ 100000) (hb : bs.length ≤ 1000000) :
    Calls Tryz.prog 55 #[.pointer (some ⟨g, 0, none⟩), x] w (PutStep w B g v bs (fErr (.data b)) (fB (.data b))) := by
  have hft : ∀ i, Foot g v i → B ≤ i ∧ i < w.heap.size := fun i hi => h.foot_lt hi
  have hBw : B ≤ w.heap.size := by have := hft g (.inl rfl); omega
  have HX := Lib.hid (fun (w1 : World) (k : Only (Foot g v) w w1) => hx.only k (by omega) (fun i _ hi hf => by have := (hft i hf).1; omega))
  have C := Lib.hid (put_any B g v bs 4 (b.length : Int) w h (by omega) (by omega) (by omega))
  have hp : putI 4 (b.length : Int) = putB 4 b.length := putI_of 4 _ (by omega) (by omega)
  rw [hp] at C
  have hpl := putB_length 4 b.length
  obtain ⟨A, c, hxe, _⟩ := id hx
  have X0 := Lib.hid (Chain.start h)
  clear h hft hx hp
  simp only [fErr, fB]
  by_cases hz : 8192 < b.length
  · have hd : decide ((b.length : Int) ≤ 8192) = false := decide_eq_false (by omega)
    have R : Hid (PutStep w B g v bs 3 (putB 4 b.length ++ b) (.panicked [{ v := .iface 35 (.int .i64 3), recovered := false }]) w) := .inr ⟨by decide, rfl, Only.refl _ _⟩
    rw [if_pos hz, hxe]
    clear C HX X0 hpl
    go_enter Tryz.func55, Tryz.ntmps55
    go_wp2_with fail
    refine (must_no 3 w).mono ?_
    rintro e w' ⟨rfl, rfl⟩
    go_wp2
    exact ⟨rfl, R.out⟩
  · have hd : decide ((b.length : Int) ≤ 8192) = true := decide_eq_true (by omega)
    have hw : IntKind.u64.wrap (b.length : Int) = (b.length : Int) := IntWalk.u64_in _ (by omega)
    rw [if_neg hz]
    rw [hxe] at HX ⊢
    clear hxe
    go_enter Tryz.func55, Tryz.ntmps55
    go_wp2_with fail
    refine (must_yes 3 w).mono ?_
    rintro e w' ⟨rfl, rfl⟩
    go_wp2_with fail
    refine C.out.mono ?_
    intro e w1 st
    obtain ⟨v1, rfl, x1⟩ := X0.out.step st
    have C1 := Lib.hid (outraw_any B g v1 _ (bs ++ putB 4 b.length) b lo hi w1 x1.out (HX.out _ x1.only) (by simp only [List.length_append]; omega))
    have X1 := Lib.hid x1
    clear C st x1 X0 HX
    go_wp2_with fail
    refine C1.out.mono ?_
    intro e w2 st
    obtain ⟨v2, rfl, x2⟩ := X1.out.step st
    have R : Hid (PutStep w B g v bs 0 (putB 4 b.length ++ b) (.returned (.tuple #[])) w2) := .inl ⟨rfl, by rw [← List.append_assoc]; exact x2.fin (Only.refl _ _)⟩
    clear C1 X1 x2 st
    go_wp2
    go_end0
    exact R.out

set_option maxHeartbeats 1000000 in
theorem putrecord_any (B g : Nat) (v : Value) (bs : List UInt8) (s : S11) (w : World) (h : OutAt w B g v bs) (hT : Tabs w) (hn : s.Num) (hs : s.Few) (hb : bs.length ≤ 1000000) :
    Calls Tryz.prog 56 #[.pointer (some ⟨g, 0, none⟩), s.val] w (PutStep w B g v bs (wrongL s.texts) (putB 2 s.size ++ recB s)) := by
  obtain ⟨w0, hw0⟩ : ∃ w0, w0 = w.alloc (.cells s.cells 32) := ⟨_, rfl⟩
  have hN : Has w0 w.heap.size 32 s.cells := by rw [hw0]; exact Has.new _ _ _
  have hk : Only (fun _ => False) w w0 := by rw [hw0]; exact (Only.refl _ w).alloc _
  have C := Lib.hid (encode_any s w0 hn hs (hT.only hk (fun h => h) (fun h => h)))
  have X0 := Lib.hid (Chain.start (h.only hk (fun _ _ h => h)))
  have HK := Lib.hid hk
  obtain ⟨⟨d0, d1, d2, d3, d4⟩, ⟨d5, d6, d7, d8⟩, ⟨d9, d10, d11, d12⟩⟩ := hN.cells13
  have hsz : s.size ≤ 5000 := by
    obtain ⟨hs1, hs2, hs3, hs4⟩ := hs
    unfold S11.size
    omega
  have hft : ∀ i, Foot g v i → B ≤ i ∧ i < w.heap.size := fun i hi => h.foot_lt hi
  have hpl := putB_length 2 s.size
  rw [hw0] at d0 d1 d2 d3 d4 d5 d6 d7 d8 d9 d10 d11 d12
  have HW := Lib.hid hw0.symm
  unfold S11.val S11.cells at *
  clear h hT hn hs hN hk hw0
  go_enter Tryz.func56, Tryz.ntmps56
  go_wp2_with fail
  rw [HW.out]
  refine C.out.mono ?_
  clear d0 d1 d2 d3 d4 d5 d6 d7 d8 d9 d10 d11 d12 HW
  intro e w1 st
  rcases st with ⟨h0, x, rfl, ow, b1⟩ | ⟨h0, rfl, b1⟩
  · have X1 := Lib.hid (X0.out.quiet (Only.of_below b1) (fun i hi h => by omega))
    have hrl := recB_length h0
    have sx := owns_SlIs ow
    obtain ⟨A, c, rfl, _⟩ := owns_slice ow
    rw [hrl] at sx ⊢
    have hw : IntKind.u64.wrap (s.size : Int) = (s.size : Int) := IntWalk.u64_in _ (by omega)
    have hp : putI 2 (s.size : Int) = putB 2 s.size := putI_of 2 _ (by omega) (by omega)
    have C1 := Lib.hid (put_any B g v bs 2 (s.size : Int) w1 X1.out.out (by omega) (by omega) (by omega))
    rw [hp] at C1
    have hb0 := HK.out.size
    have hb1 := b1.size
    have HX := Lib.hid (fun (w2 : World) (k : Only (Foot g v) w1 w2) => sx.only k (Nat.le_refl _) (fun i hi _ hf => by have := (hft i hf).2; omega))
    rw [h0]
    clear ow b1 hp sx
    go_wp2_with fail
    refine (must_yes 0 w1).mono ?_
    rintro e w' ⟨rfl, rfl⟩
    go_wp2_with fail
    refine C1.out.mono ?_
    intro e w2 st
    obtain ⟨v2, rfl, x2⟩ := X1.out.step st
    obtain ⟨_, _, _, o2, _⟩ := st
    have C2 := Lib.hid (outraw_any B g v2 _ (bs ++ putB 2 s.size) (recB s) _ _ w2 x2.out (HX.out _ (by assumption)) (by simp only [List.length_append]; omega))
    have X2 := Lib.hid x2
    clear C1 x2 X1 HX o2
    go_wp2_with fail
    refine C2.out.mono ?_
    intro e w3 st
    obtain ⟨v3, rfl, x3⟩ := X2.out.step st
    have R : Hid (PutStep w B g v bs (wrongL s.texts) (putB 2 s.size ++ recB s) (.returned (.tuple #[])) w3) := .inl ⟨h0, by rw [← List.append_assoc]; exact x3.fin HK.out⟩
    clear C2 X2 x3 st
    go_wp2
    go_end0
    exact R.out
  · have R : Hid (PutStep w B g v bs (wrongL s.texts) (putB 2 s.size ++ recB s) (.panicked [{ v := .iface 35 (.int .i64 (wrongL s.texts)), recovered := false }]) w1) :=
      .inr ⟨h0, rfl, (HK.out.mono (fun _ _ h => h.elim)).trans (Only.of_below b1) (fun i hi h => by have := HK.out.size; omega)⟩
    have hzb : (wrongL s.texts == 0) = false := by simpa using h0
    clear b1 C X0 HK
    go_wp2_with fail
    refine (must_no (wrongL s.texts) w1).mono ?_
    rintro e w' ⟨rfl, rfl⟩
    go_wp2
    exact ⟨rfl, R.out⟩

theorem Tryz.enterPutText : ∀ args w, (callFunc 51 args).run Tryz.prog w = .ok (.enter 51 args) w := enters_of Tryz.func51 (by kernel_rfl) rfl
theorem Tryz.enterPutQid : ∀ args w, (callFunc 53 args).run Tryz.prog w = .ok (.enter 53 args) w := enters_of Tryz.func53 (by kernel_rfl) rfl

/-- At the loop's head: so many are added. -/
def ListInv (w : World) (B g : Nat) (v : Value) (bs : List UInt8) (wr : World) : Prop := ∃ v1, Chain w B g v bs wr v1
theorem textsB_len (L : List (List UInt8)) (n : Nat) (h : L.length ≤ n) : (textsB L).length ≤ 72 * n := Nat.le_trans (textsB_le L) (Nat.mul_le_mul_left _ h)

set_option maxHeartbeats 2000000 in
theorem putlists_any (B g : Nat) (v x : Value) (bs : List UInt8) (L : List (List UInt8)) (lo hi : Nat) (w : World) (h : OutAt w B g v bs) (hT : Tabs w) (hB : 1 < B ∧ 2 < B) (hx : StrsAt w lo hi x L) (hhi : hi ≤ B)
    (hL : ∀ l ∈ L, l.length ≤ 1000) (hl : L.length ≤ 1000) (hb : bs.length ≤ 500000) :
    Calls Tryz.prog 52 #[.pointer (some ⟨g, 0, none⟩), x, .func (.func 51) #[] #[]] w (PutStep w B g v bs (fErr (.texts L)) (fB (.texts L))) := by
  have hft : ∀ i, Foot g v i → B ≤ i ∧ i < w.heap.size := fun i hi => h.foot_lt hi
  have hBw : B ≤ w.heap.size := by have := hft g (.inl rfl); omega
  have HX := Lib.hid (fun (w1 : World) (bs : List UInt8) (v1 : Value) (c : Chain w B g v bs w1 v1) => hx.keep (c.only.keeps (by omega) (fun i _ hi hf => by have := (hft i hf).1; omega)))
  have HT := Lib.hid (fun (w1 : World) (bs : List UInt8) (v1 : Value) (c : Chain w B g v bs w1 v1) => hT.only c.only (fun h => by have := (hft _ h).1; omega) (fun h => by have := (hft _ h).1; omega))
  have C := Lib.hid (put_any B g v bs 2 (L.length : Int) w h (by omega) (by omega) (by omega))
  have hp : putI 2 (L.length : Int) = putB 2 L.length := putI_of 2 _ (by omega) (by omega)
  rw [hp] at C
  have hpl := putB_length 2 L.length
  obtain ⟨A, c, hxe, _⟩ := id hx
  have X0 := Lib.hid (Chain.start h)
  have eg := Tryz.enterPutText
  clear h hft hx hp hT
  simp only [fErr, fB]
  by_cases hz : 16 < L.length
  · have hd : decide ((L.length : Int) ≤ 16) = false := decide_eq_false (by omega)
    have R : Hid (PutStep w B g v bs 3 (putB 2 L.length ++ textsB L) (.panicked [{ v := .iface 35 (.int .i64 3), recovered := false }]) w) := .inr ⟨by decide, rfl, Only.refl _ _⟩
    rw [if_pos hz, hxe]
    clear C HX X0 hpl HT
    go_enter Tryz.func52, Tryz.ntmps52
    go_wp2_with fail
    refine (must_no 3 w).mono ?_
    rintro e w' ⟨rfl, rfl⟩
    go_wp2
    exact ⟨rfl, R.out⟩
  · have hd : decide ((L.length : Int) ≤ 16) = true := decide_eq_true (by omega)
    have hw : IntKind.u64.wrap (L.length : Int) = (L.length : Int) := IntWalk.u64_in _ (by omega)
    rw [if_neg hz]
    have hl16 : L.length ≤ 16 := by omega
    rw [hxe] at HX ⊢
    have HL := Lib.hid hL
    clear hxe hL
    go_enter Tryz.func52, Tryz.ntmps52
    go_wp2_with fail
    refine (must_yes 3 w).mono ?_
    rintro e w' ⟨rfl, rfl⟩
    go_wp2_with fail
    refine C.out.mono ?_
    intro e w1 st
    obtain ⟨v1, rfl, x1⟩ := X0.out.step st
    have I0 : Hid (wrongL (L.take 0) = 0 ∧ ListInv w B g v (bs ++ putB 2 L.length ++ textsB (L.take 0)) w1) := ⟨rfl, v1, by simpa [textsB] using x1⟩
    clear C st x1 X0
    go_wp2_with fail
    go_loopw [19] (fun i wr => ∃ j : Nat, j ≤ L.length ∧ i = .int .i64 j ∧ Hid (wrongL (L.take j) = 0 ∧ ListInv w B g v (bs ++ putB 2 L.length ++ textsB (L.take j)) wr)) (fun i _ => L.length - (intOf i).toNat)
    case atStart => exact ⟨0, Nat.zero_le _, rfl, I0⟩
    case round =>
      obtain ⟨j, hj, rfl, hrel⟩ := hrel
      clear I0
      obtain ⟨h0, v2, hC⟩ := hrel.out
      by_cases hlt : j < L.length
      · obtain ⟨A', c', hAe, _, _, hcs⟩ := HX.out _ _ _ hC
        injection hAe with hA hn hc
        subst hA hc
        obtain ⟨ad, rfl, hb1, hb2, hcl⟩ := hcs (by omega)
        have hcell := hcl j hlt
        have i0 : (0 : Int) ≤ (j : Int) := by omega
        have i1 : (j : Int) < (L.length : Int) := by omega
        have hle := textsB_len (L.take j) 16 (by rw [List.length_take]; omega)
        have hlj := HL.out (L[j]'hlt) (List.getElem_mem hlt)
        have C := Lib.hid (puttext_any B g v2 (bs ++ putB 2 L.length ++ textsB (L.take j)) (L[j]'hlt) wr hC.out (HT.out _ _ _ hC) hlj (by simp only [List.length_append]; omega))
        have h2 := wrongL_succ L j hlt h0
        have h3 := wrongL_stop L j hlt h0
        have h4 := textsB_succ L j hlt
        obtain ⟨t, ht⟩ : ∃ t, t = L[j]'hlt := ⟨_, rfl⟩
        rw [← ht] at C hcell h2 h3 h4
        have fin : Hid (∀ e w2, PutStep wr B g v2 (bs ++ putB 2 L.length ++ textsB (L.take j)) (wrongOf t) (textB t) e w2 →
            (e = .returned (.tuple #[]) ∧ wrongL (L.take (j + 1)) = 0 ∧ ListInv w B g v (bs ++ putB 2 L.length ++ textsB (L.take (j + 1))) w2) ∨
            (e = .panicked [{ v := .iface 35 (.int .i64 (wrongOf t)), recovered := false }] ∧ PutStep w B g v bs (wrongL L) (putB 2 L.length ++ textsB L) e w2)) := by
          rintro e w2 (⟨hz, st⟩ | ⟨hz, he, k⟩)
          · obtain ⟨v3, he, x3⟩ := hC.step st
            exact .inl ⟨he, by rw [h2]; exact hz, v3, by rw [h4, ← List.append_assoc]; exact x3⟩
          · refine .inr ⟨he, .inr ⟨by rw [h3 hz]; exact hz, by rw [h3 hz]; exact he, hC.only.trans k ?_⟩⟩
            intro i hi hf
            rcases hf with hf | hf
            · exact .inl hf
            · rcases hC.own i hf with h | h
              · exact .inr h
              · omega
        clear hC h0 hrel hle hlj h2 h3 h4 ht hcs hcl hb1 hb2
        go_wp2_with fail
        go_at_fn 51
        refine C.out.mono ?_
        intro e w2 hst
        rcases fin.out e w2 hst with ⟨rfl, hR⟩ | ⟨rfl, hR⟩
        · have R := Lib.hid hR
          clear hst fin C hcell hR
          go_wp2
          go_roundw
          case rel => exact ⟨j + 1, by omega, by go_num, R⟩
          case measure => simp [intOf]; omega
        · have R := Lib.hid hR
          clear hst fin C hcell hR
          go_wp2
          exact ⟨rfl, R.out⟩
      · have hj4 : j = L.length := by omega
        subst hj4
        rw [List.take_length] at h0 hC
        have R : Hid (PutStep w B g v bs (wrongL L) (putB 2 L.length ++ textsB L) (.returned (.tuple #[])) wr) := by
          rw [h0]
          exact .inl ⟨rfl, by rw [← List.append_assoc]; exact hC.fin (Only.refl _ _)⟩
        clear hC h0 hrel
        go_wp2
        go_end0
        exact R.out
end Go.Proofs.YtepiifbleoimkaaGreatDoor
namespace Go.Proofs.YtepiifbleoimkaaGreatDoor
open Go.RowKit
set_option maxRecDepth 100000

theorem qidsB_succ (qs : List Q3) (j : Nat) (h : j < qs.length) : qidsB (qs.take (j + 1)) = qidsB (qs.take j) ++ qidB qs[j] := by
  unfold qidsB
  rw [List.take_succ_eq_append_getElem h, List.flatMap_append]
  simp
theorem qidsB_length (qs : List Q3) : (qidsB qs).length = 13 * qs.length := by
  induction qs with
  | nil => rfl
  | cons q qs ih =>
    have e : qidsB (q :: qs) = qidB q ++ qidsB qs := by simp [qidsB]
    rw [e, List.length_append, ih, qidB_length, List.length_cons]
    omega

set_option maxHeartbeats 2000000 in
theorem putlistq_any (B g : Nat) (v x : Value) (bs : List UInt8) (L : List Q3) (lo hi : Nat) (w : World) (h : OutAt w B g v bs) (hx : QdsAt w lo hi x L) (hhi : hi ≤ B)
    (hL : ∀ q ∈ L, q.Ok) (hl : L.length ≤ 1000) (hb : bs.length ≤ 500000) :
    Calls Tryz.prog 54 #[.pointer (some ⟨g, 0, none⟩), x, .func (.func 53) #[] #[]] w (PutStep w B g v bs (fErr (.qids L)) (fB (.qids L))) := by
  have hft : ∀ i, Foot g v i → B ≤ i ∧ i < w.heap.size := fun i hi => h.foot_lt hi
  have hBw : B ≤ w.heap.size := by have := hft g (.inl rfl); omega
  have HX := Lib.hid (fun (w1 : World) (bs : List UInt8) (v1 : Value) (c : Chain w B g v bs w1 v1) => hx.keep (c.only.keeps (by omega) (fun i _ hi hf => by have := (hft i hf).1; omega)))
  have C := Lib.hid (put_any B g v bs 2 (L.length : Int) w h (by omega) (by omega) (by omega))
  have hp : putI 2 (L.length : Int) = putB 2 L.length := putI_of 2 _ (by omega) (by omega)
  rw [hp] at C
  have hpl := putB_length 2 L.length
  obtain ⟨A, c, hxe, _⟩ := id hx
  have X0 := Lib.hid (Chain.start h)
  have eg := Tryz.enterPutQid
  clear h hft hx hp
  simp only [fErr, fB]
  by_cases hz : 16 < L.length
  · have hd : decide ((L.length : Int) ≤ 16) = false := decide_eq_false (by omega)
    have R : Hid (PutStep w B g v bs 3 (putB 2 L.length ++ qidsB L) (.panicked [{ v := .iface 35 (.int .i64 3), recovered := false }]) w) := .inr ⟨by decide, rfl, Only.refl _ _⟩
    rw [if_pos hz, hxe]
    clear C HX X0 hpl
    go_enter Tryz.func54, Tryz.ntmps54
    go_wp2_with fail
    refine (must_no 3 w).mono ?_
    rintro e w' ⟨rfl, rfl⟩
    go_wp2
    exact ⟨rfl, R.out⟩
  · have hd : decide ((L.length : Int) ≤ 16) = true := decide_eq_true (by omega)
    have hw : IntKind.u64.wrap (L.length : Int) = (L.length : Int) := IntWalk.u64_in _ (by omega)
    rw [if_neg hz]
    have hl16 : L.length ≤ 16 := by omega
    rw [hxe] at HX ⊢
    have HL := Lib.hid hL
    clear hxe hL
    go_enter Tryz.func54, Tryz.ntmps54
    go_wp2_with fail
    refine (must_yes 3 w).mono ?_
    rintro e w' ⟨rfl, rfl⟩
    go_wp2_with fail
    refine C.out.mono ?_
    intro e w1 st
    obtain ⟨v1, rfl, x1⟩ := X0.out.step st
    have I0 : Hid (ListInv w B g v (bs ++ putB 2 L.length ++ qidsB (L.take 0)) w1) := ⟨v1, by simpa [qidsB] using x1⟩
    clear C st x1 X0
    go_wp2_with fail
    go_loopw [19] (fun i wr => ∃ j : Nat, j ≤ L.length ∧ i = .int .i64 j ∧ Hid (ListInv w B g v (bs ++ putB 2 L.length ++ qidsB (L.take j)) wr)) (fun i _ => L.length - (intOf i).toNat)
    case atStart => exact ⟨0, Nat.zero_le _, rfl, I0⟩
    case round =>
      obtain ⟨j, hj, rfl, hrel⟩ := hrel
      clear I0
      obtain ⟨v2, hC⟩ := hrel.out
      by_cases hlt : j < L.length
      · obtain ⟨A', c', hAe, _, _, hcs⟩ := HX.out _ _ _ hC
        injection hAe with hA hn hc
        subst hA hc
        obtain ⟨ad, rfl, hb1, hb2, hcl⟩ := hcs (by omega)
        obtain ⟨c0, c1, c2⟩ := hcl j hlt
        have i0 : (0 : Int) ≤ (j : Int) := by omega
        have i1 : (j : Int) < (L.length : Int) := by omega
        have hle := qidsB_length (L.take j)
        have hl2 : (L.take j).length ≤ 16 := by rw [List.length_take]; omega
        have hq := HL.out (L[j]'hlt) (List.getElem_mem hlt)
        have h4 := qidsB_succ L j hlt
        obtain ⟨q, ht⟩ : ∃ t, t = L[j]'hlt := ⟨_, rfl⟩
        rw [← ht] at c0 c1 c2 hq h4
        have hC := hC.quiet ((Only.refl (fun _ => False) wr).alloc (.cells #[.int .u8 (q.t : Int), .int .u32 (q.v : Int), .int .u64 (q.p : Int)] 30)) (fun _ _ h => h)
        have C : Hid (Calls Tryz.prog 53 #[.pointer (some ⟨g, 0, none⟩), .agg #[.int .u8 (q.t : Int), .int .u32 (q.v : Int), .int .u64 (q.p : Int)]] (wr.alloc (.cells #[.int .u8 (q.t : Int), .int .u32 (q.v : Int), .int .u64 (q.p : Int)] 30)) (OutStep (wr.alloc (.cells #[.int .u8 (q.t : Int), .int .u32 (q.v : Int), .int .u64 (q.p : Int)] 30)) B g v2 (bs ++ putB 2 L.length ++ qidsB (L.take j) ++ qidB q))) :=
          qidput_any B g v2 _ q _ hC.out hq (by simp only [List.length_append]; omega)
        have fin : Hid (∀ e w2, OutStep (wr.alloc (.cells #[.int .u8 (q.t : Int), .int .u32 (q.v : Int), .int .u64 (q.p : Int)] 30)) B g v2 (bs ++ putB 2 L.length ++ qidsB (L.take j) ++ qidB q) e w2 → e = .returned (.tuple #[]) ∧ ListInv w B g v (bs ++ putB 2 L.length ++ qidsB (L.take (j + 1))) w2) := by
          intro e w2 st
          obtain ⟨v3, he, x3⟩ := hC.step st
          exact ⟨he, v3, by rw [h4, ← List.append_assoc]; exact x3⟩
        clear hC hrel hle hl2 h4 ht hcs hcl hb1 hb2 hq
        go_wp2_with fail
        go_at_fn 53
        refine C.out.mono ?_
        intro e w2 hst
        obtain ⟨rfl, hR⟩ := fin.out e w2 hst
        have R := Lib.hid hR
        clear hst fin C hR c0 c1 c2
        go_wp2
        go_roundw
        case rel => exact ⟨j + 1, by omega, by go_num, R⟩
        case measure => simp [intOf]; omega
      · have hj4 : j = L.length := by omega
        subst hj4
        rw [List.take_length] at hC
        have R : Hid (PutStep w B g v bs 0 (putB 2 L.length ++ qidsB L) (.returned (.tuple #[])) wr) := by
          exact .inl ⟨rfl, by rw [← List.append_assoc]; exact hC.fin (Only.refl _ _)⟩
        clear hC hrel
        go_wp2
        go_end0
        exact R.out

/-! What a pointer in an interface is asserted to be. -/
theorem Tryz.as_u8_u8 (p : Addr) : ∀ w, (Instr.typeAssert (.iface 100 (.pointer (some p))) 20 100 true).run Tryz.prog w = .ok (.tuple #[.pointer (some p), .bool true]) w := by intro w; kernel_rfl
theorem Tryz.as_u16_u8 (p : Addr) : ∀ w, (Instr.typeAssert (.iface 97 (.pointer (some p))) 20 100 true).run Tryz.prog w = .ok (.tuple #[.pointer none, .bool false]) w := by intro w; kernel_rfl
theorem Tryz.as_u16_u16 (p : Addr) : ∀ w, (Instr.typeAssert (.iface 97 (.pointer (some p))) 20 97 true).run Tryz.prog w = .ok (.tuple #[.pointer (some p), .bool true]) w := by intro w; kernel_rfl
theorem Tryz.as_u32_u8 (p : Addr) : ∀ w, (Instr.typeAssert (.iface 94 (.pointer (some p))) 20 100 true).run Tryz.prog w = .ok (.tuple #[.pointer none, .bool false]) w := by intro w; kernel_rfl
theorem Tryz.as_u32_u16 (p : Addr) : ∀ w, (Instr.typeAssert (.iface 94 (.pointer (some p))) 20 97 true).run Tryz.prog w = .ok (.tuple #[.pointer none, .bool false]) w := by intro w; kernel_rfl
theorem Tryz.as_u32_u32 (p : Addr) : ∀ w, (Instr.typeAssert (.iface 94 (.pointer (some p))) 20 94 true).run Tryz.prog w = .ok (.tuple #[.pointer (some p), .bool true]) w := by intro w; kernel_rfl
theorem Tryz.as_u64_u8 (p : Addr) : ∀ w, (Instr.typeAssert (.iface 101 (.pointer (some p))) 20 100 true).run Tryz.prog w = .ok (.tuple #[.pointer none, .bool false]) w := by intro w; kernel_rfl
theorem Tryz.as_u64_u16 (p : Addr) : ∀ w, (Instr.typeAssert (.iface 101 (.pointer (some p))) 20 97 true).run Tryz.prog w = .ok (.tuple #[.pointer none, .bool false]) w := by intro w; kernel_rfl
theorem Tryz.as_u64_u32 (p : Addr) : ∀ w, (Instr.typeAssert (.iface 101 (.pointer (some p))) 20 94 true).run Tryz.prog w = .ok (.tuple #[.pointer none, .bool false]) w := by intro w; kernel_rfl
theorem Tryz.as_u64_u64 (p : Addr) : ∀ w, (Instr.typeAssert (.iface 101 (.pointer (some p))) 20 101 true).run Tryz.prog w = .ok (.tuple #[.pointer (some p), .bool true]) w := by intro w; kernel_rfl
theorem Tryz.as_text_u8 (p : Addr) : ∀ w, (Instr.typeAssert (.iface 95 (.pointer (some p))) 20 100 true).run Tryz.prog w = .ok (.tuple #[.pointer none, .bool false]) w := by intro w; kernel_rfl
theorem Tryz.as_text_u16 (p : Addr) : ∀ w, (Instr.typeAssert (.iface 95 (.pointer (some p))) 20 97 true).run Tryz.prog w = .ok (.tuple #[.pointer none, .bool false]) w := by intro w; kernel_rfl
theorem Tryz.as_text_u32 (p : Addr) : ∀ w, (Instr.typeAssert (.iface 95 (.pointer (some p))) 20 94 true).run Tryz.prog w = .ok (.tuple #[.pointer none, .bool false]) w := by intro w; kernel_rfl
theorem Tryz.as_text_u64 (p : Addr) : ∀ w, (Instr.typeAssert (.iface 95 (.pointer (some p))) 20 101 true).run Tryz.prog w = .ok (.tuple #[.pointer none, .bool false]) w := by intro w; kernel_rfl
theorem Tryz.as_text_text (p : Addr) : ∀ w, (Instr.typeAssert (.iface 95 (.pointer (some p))) 20 95 true).run Tryz.prog w = .ok (.tuple #[.pointer (some p), .bool true]) w := by intro w; kernel_rfl
theorem Tryz.as_texts_u8 (p : Addr) : ∀ w, (Instr.typeAssert (.iface 98 (.pointer (some p))) 20 100 true).run Tryz.prog w = .ok (.tuple #[.pointer none, .bool false]) w := by intro w; kernel_rfl
theorem Tryz.as_texts_u16 (p : Addr) : ∀ w, (Instr.typeAssert (.iface 98 (.pointer (some p))) 20 97 true).run Tryz.prog w = .ok (.tuple #[.pointer none, .bool false]) w := by intro w; kernel_rfl
theorem Tryz.as_texts_u32 (p : Addr) : ∀ w, (Instr.typeAssert (.iface 98 (.pointer (some p))) 20 94 true).run Tryz.prog w = .ok (.tuple #[.pointer none, .bool false]) w := by intro w; kernel_rfl
theorem Tryz.as_texts_u64 (p : Addr) : ∀ w, (Instr.typeAssert (.iface 98 (.pointer (some p))) 20 101 true).run Tryz.prog w = .ok (.tuple #[.pointer none, .bool false]) w := by intro w; kernel_rfl
theorem Tryz.as_texts_text (p : Addr) : ∀ w, (Instr.typeAssert (.iface 98 (.pointer (some p))) 20 95 true).run Tryz.prog w = .ok (.tuple #[.pointer none, .bool false]) w := by intro w; kernel_rfl
theorem Tryz.as_texts_texts (p : Addr) : ∀ w, (Instr.typeAssert (.iface 98 (.pointer (some p))) 20 98 true).run Tryz.prog w = .ok (.tuple #[.pointer (some p), .bool true]) w := by intro w; kernel_rfl
theorem Tryz.as_qid_u8 (p : Addr) : ∀ w, (Instr.typeAssert (.iface 96 (.pointer (some p))) 20 100 true).run Tryz.prog w = .ok (.tuple #[.pointer none, .bool false]) w := by intro w; kernel_rfl
theorem Tryz.as_qid_u16 (p : Addr) : ∀ w, (Instr.typeAssert (.iface 96 (.pointer (some p))) 20 97 true).run Tryz.prog w = .ok (.tuple #[.pointer none, .bool false]) w := by intro w; kernel_rfl
theorem Tryz.as_qid_u32 (p : Addr) : ∀ w, (Instr.typeAssert (.iface 96 (.pointer (some p))) 20 94 true).run Tryz.prog w = .ok (.tuple #[.pointer none, .bool false]) w := by intro w; kernel_rfl
theorem Tryz.as_qid_u64 (p : Addr) : ∀ w, (Instr.typeAssert (.iface 96 (.pointer (some p))) 20 101 true).run Tryz.prog w = .ok (.tuple #[.pointer none, .bool false]) w := by intro w; kernel_rfl
theorem Tryz.as_qid_text (p : Addr) : ∀ w, (Instr.typeAssert (.iface 96 (.pointer (some p))) 20 95 true).run Tryz.prog w = .ok (.tuple #[.pointer none, .bool false]) w := by intro w; kernel_rfl
theorem Tryz.as_qid_texts (p : Addr) : ∀ w, (Instr.typeAssert (.iface 96 (.pointer (some p))) 20 98 true).run Tryz.prog w = .ok (.tuple #[.pointer none, .bool false]) w := by intro w; kernel_rfl
theorem Tryz.as_qid_qid (p : Addr) : ∀ w, (Instr.typeAssert (.iface 96 (.pointer (some p))) 20 96 true).run Tryz.prog w = .ok (.tuple #[.pointer (some p), .bool true]) w := by intro w; kernel_rfl
theorem Tryz.as_qids_u8 (p : Addr) : ∀ w, (Instr.typeAssert (.iface 99 (.pointer (some p))) 20 100 true).run Tryz.prog w = .ok (.tuple #[.pointer none, .bool false]) w := by intro w; kernel_rfl
theorem Tryz.as_qids_u16 (p : Addr) : ∀ w, (Instr.typeAssert (.iface 99 (.pointer (some p))) 20 97 true).run Tryz.prog w = .ok (.tuple #[.pointer none, .bool false]) w := by intro w; kernel_rfl
theorem Tryz.as_qids_u32 (p : Addr) : ∀ w, (Instr.typeAssert (.iface 99 (.pointer (some p))) 20 94 true).run Tryz.prog w = .ok (.tuple #[.pointer none, .bool false]) w := by intro w; kernel_rfl
theorem Tryz.as_qids_u64 (p : Addr) : ∀ w, (Instr.typeAssert (.iface 99 (.pointer (some p))) 20 101 true).run Tryz.prog w = .ok (.tuple #[.pointer none, .bool false]) w := by intro w; kernel_rfl
theorem Tryz.as_qids_text (p : Addr) : ∀ w, (Instr.typeAssert (.iface 99 (.pointer (some p))) 20 95 true).run Tryz.prog w = .ok (.tuple #[.pointer none, .bool false]) w := by intro w; kernel_rfl
theorem Tryz.as_qids_texts (p : Addr) : ∀ w, (Instr.typeAssert (.iface 99 (.pointer (some p))) 20 98 true).run Tryz.prog w = .ok (.tuple #[.pointer none, .bool false]) w := by intro w; kernel_rfl
theorem Tryz.as_qids_qid (p : Addr) : ∀ w, (Instr.typeAssert (.iface 99 (.pointer (some p))) 20 96 true).run Tryz.prog w = .ok (.tuple #[.pointer none, .bool false]) w := by intro w; kernel_rfl
theorem Tryz.as_qids_qids (p : Addr) : ∀ w, (Instr.typeAssert (.iface 99 (.pointer (some p))) 20 99 true).run Tryz.prog w = .ok (.tuple #[.pointer (some p), .bool true]) w := by intro w; kernel_rfl
theorem Tryz.as_data_u8 (p : Addr) : ∀ w, (Instr.typeAssert (.iface 102 (.pointer (some p))) 20 100 true).run Tryz.prog w = .ok (.tuple #[.pointer none, .bool false]) w := by intro w; kernel_rfl
theorem Tryz.as_data_u16 (p : Addr) : ∀ w, (Instr.typeAssert (.iface 102 (.pointer (some p))) 20 97 true).run Tryz.prog w = .ok (.tuple #[.pointer none, .bool false]) w := by intro w; kernel_rfl
theorem Tryz.as_data_u32 (p : Addr) : ∀ w, (Instr.typeAssert (.iface 102 (.pointer (some p))) 20 94 true).run Tryz.prog w = .ok (.tuple #[.pointer none, .bool false]) w := by intro w; kernel_rfl
theorem Tryz.as_data_u64 (p : Addr) : ∀ w, (Instr.typeAssert (.iface 102 (.pointer (some p))) 20 101 true).run Tryz.prog w = .ok (.tuple #[.pointer none, .bool false]) w := by intro w; kernel_rfl
theorem Tryz.as_data_text (p : Addr) : ∀ w, (Instr.typeAssert (.iface 102 (.pointer (some p))) 20 95 true).run Tryz.prog w = .ok (.tuple #[.pointer none, .bool false]) w := by intro w; kernel_rfl
theorem Tryz.as_data_texts (p : Addr) : ∀ w, (Instr.typeAssert (.iface 102 (.pointer (some p))) 20 98 true).run Tryz.prog w = .ok (.tuple #[.pointer none, .bool false]) w := by intro w; kernel_rfl
theorem Tryz.as_data_qid (p : Addr) : ∀ w, (Instr.typeAssert (.iface 102 (.pointer (some p))) 20 96 true).run Tryz.prog w = .ok (.tuple #[.pointer none, .bool false]) w := by intro w; kernel_rfl
theorem Tryz.as_data_qids (p : Addr) : ∀ w, (Instr.typeAssert (.iface 102 (.pointer (some p))) 20 99 true).run Tryz.prog w = .ok (.tuple #[.pointer none, .bool false]) w := by intro w; kernel_rfl
theorem Tryz.as_data_data (p : Addr) : ∀ w, (Instr.typeAssert (.iface 102 (.pointer (some p))) 20 102 true).run Tryz.prog w = .ok (.tuple #[.pointer (some p), .bool true]) w := by intro w; kernel_rfl
theorem Tryz.as_stat_u8 (p : Addr) : ∀ w, (Instr.typeAssert (.iface 103 (.pointer (some p))) 20 100 true).run Tryz.prog w = .ok (.tuple #[.pointer none, .bool false]) w := by intro w; kernel_rfl
theorem Tryz.as_stat_u16 (p : Addr) : ∀ w, (Instr.typeAssert (.iface 103 (.pointer (some p))) 20 97 true).run Tryz.prog w = .ok (.tuple #[.pointer none, .bool false]) w := by intro w; kernel_rfl
theorem Tryz.as_stat_u32 (p : Addr) : ∀ w, (Instr.typeAssert (.iface 103 (.pointer (some p))) 20 94 true).run Tryz.prog w = .ok (.tuple #[.pointer none, .bool false]) w := by intro w; kernel_rfl
theorem Tryz.as_stat_u64 (p : Addr) : ∀ w, (Instr.typeAssert (.iface 103 (.pointer (some p))) 20 101 true).run Tryz.prog w = .ok (.tuple #[.pointer none, .bool false]) w := by intro w; kernel_rfl
theorem Tryz.as_stat_text (p : Addr) : ∀ w, (Instr.typeAssert (.iface 103 (.pointer (some p))) 20 95 true).run Tryz.prog w = .ok (.tuple #[.pointer none, .bool false]) w := by intro w; kernel_rfl
theorem Tryz.as_stat_texts (p : Addr) : ∀ w, (Instr.typeAssert (.iface 103 (.pointer (some p))) 20 98 true).run Tryz.prog w = .ok (.tuple #[.pointer none, .bool false]) w := by intro w; kernel_rfl
theorem Tryz.as_stat_qid (p : Addr) : ∀ w, (Instr.typeAssert (.iface 103 (.pointer (some p))) 20 96 true).run Tryz.prog w = .ok (.tuple #[.pointer none, .bool false]) w := by intro w; kernel_rfl
theorem Tryz.as_stat_qids (p : Addr) : ∀ w, (Instr.typeAssert (.iface 103 (.pointer (some p))) 20 99 true).run Tryz.prog w = .ok (.tuple #[.pointer none, .bool false]) w := by intro w; kernel_rfl
theorem Tryz.as_stat_data (p : Addr) : ∀ w, (Instr.typeAssert (.iface 103 (.pointer (some p))) 20 102 true).run Tryz.prog w = .ok (.tuple #[.pointer none, .bool false]) w := by intro w; kernel_rfl
theorem Tryz.as_stat_stat (p : Addr) : ∀ w, (Instr.typeAssert (.iface 103 (.pointer (some p))) 20 103 true).run Tryz.prog w = .ok (.tuple #[.pointer (some p), .bool true]) w := by intro w; kernel_rfl

/-- The integer kind of so many bytes; the type of a pointer to a field of a kind. -/
def ik (n : Nat) : IntKind := if n = 1 then .u8 else if n = 2 then .u16 else if n = 4 then .u32 else .u64
def K.ptr : K → TypeId
  | .num n => if n = 1 then 100 else if n = 2 then 97 else if n = 4 then 94 else 101
  | .text => 95
  | .texts => 98
  | .qid => 96
  | .qids => 99
  | .data => 102
  | .stat => 103
def K.std : K → Prop
  | .num n => n = 1 ∨ n = 2 ∨ n = 4 ∨ n = 8
  | _ => True
/-- The field f lies at off of a row of cells; what its slices lead to lies in blocks from lo on and below hi. -/
def FAt (w : World) (lo hi : Nat) (cs : Array Value) (off : Nat) : F → Prop
  | .num n x => cs[off]? = some (.int (ik n) (x : Int))
  | .text l => cs[off]? = some (.string (strOf l))
  | .texts L => ∃ v, cs[off]? = some v ∧ StrsAt w lo hi v L
  | .qid q => cs[off]? = some (.int .u8 (q.t : Int)) ∧ cs[off + 1]? = some (.int .u32 (q.v : Int)) ∧ cs[off + 2]? = some (.int .u64 (q.p : Int))
  | .qids Q => ∃ v, cs[off]? = some v ∧ QdsAt w lo hi v Q
  | .data b => ∃ v, cs[off]? = some v ∧ SlIs w lo hi v b
  | .stat s => ∀ j, j < 13 → cs[off + j]? = s.cells[j]?
theorem FAt.keep {w w' : World} {lo hi : Nat} {cs : Array Value} {off : Nat} {f : F} (h : FAt w lo hi cs off f) (hk : ∀ p : Addr, lo ≤ p.block → p.block < hi → w'.cell? p = w.cell? p) : FAt w' lo hi cs off f := by
  cases f with
  | texts L => obtain ⟨v, h1, h2⟩ := h; exact ⟨v, h1, h2.keep hk⟩
  | qids L => obtain ⟨v, h1, h2⟩ := h; exact ⟨v, h1, h2.keep hk⟩
  | data L => obtain ⟨v, h1, h2⟩ := h; exact ⟨v, h1, h2.keep hk⟩
  | num n x => exact h
  | text l => exact h
  | qid q => exact h
  | stat s => exact h

set_option maxHeartbeats 1000000 in
theorem put_u8 (B g mb off : Nat) (v : Value) (bs : List UInt8) (cs : Array Value) (x : Nat) (w : World) (h : OutAt w B g v bs) (hm : Has w mb 34 cs) (hc : cs[off]? = some (.int .u8 (x : Int))) (hx : x < 256 ^ 1) (hb : bs.length ≤ 500000) :
    Calls Tryz.prog 31 #[.pointer (some ⟨g, 0, none⟩), .iface 100 (.pointer (some ⟨mb, off, none⟩))] w (OutStep w B g v (bs ++ putB 1 x)) := by
  have c0 := (hm.cell off).trans hc
  have hw : IntKind.u64.wrap (x : Int) = (x : Int) := IntWalk.u64_in _ (by omega)
  have C := Lib.hid (put_any B g v bs 1 (x : Int) w h (by omega) (by omega) (by omega))
  rw [show putI 1 (x : Int) = putB 1 x from putI_of 1 _ (by omega) (by omega)] at C
  have a0 := Tryz.as_u8_u8 ⟨mb, off, none⟩
  clear h hm hc
  go_enter Tryz.func31, Tryz.ntmps31
  go_wp2_with fail
  refine C.out.mono ?_
  rintro e w1 ⟨v1, rfl, st⟩
  have R : Hid (OutStep w B g v (bs ++ putB 1 x) (.returned (.tuple #[])) w1) := ⟨v1, rfl, st⟩
  clear C st c0
  go_wp2
  go_end0
  exact R.out

set_option maxHeartbeats 1000000 in
theorem put_u16 (B g mb off : Nat) (v : Value) (bs : List UInt8) (cs : Array Value) (x : Nat) (w : World) (h : OutAt w B g v bs) (hm : Has w mb 34 cs) (hc : cs[off]? = some (.int .u16 (x : Int))) (hx : x < 256 ^ 2) (hb : bs.length ≤ 500000) :
    Calls Tryz.prog 31 #[.pointer (some ⟨g, 0, none⟩), .iface 97 (.pointer (some ⟨mb, off, none⟩))] w (OutStep w B g v (bs ++ putB 2 x)) := by
  have c0 := (hm.cell off).trans hc
  have hw : IntKind.u64.wrap (x : Int) = (x : Int) := IntWalk.u64_in _ (by omega)
  have C := Lib.hid (put_any B g v bs 2 (x : Int) w h (by omega) (by omega) (by omega))
  rw [show putI 2 (x : Int) = putB 2 x from putI_of 2 _ (by omega) (by omega)] at C
  have a0 := Tryz.as_u16_u8 ⟨mb, off, none⟩
  have a1 := Tryz.as_u16_u16 ⟨mb, off, none⟩
  clear h hm hc
  go_enter Tryz.func31, Tryz.ntmps31
  go_wp2_with fail
  refine C.out.mono ?_
  rintro e w1 ⟨v1, rfl, st⟩
  have R : Hid (OutStep w B g v (bs ++ putB 2 x) (.returned (.tuple #[])) w1) := ⟨v1, rfl, st⟩
  clear C st c0
  go_wp2
  go_end0
  exact R.out

set_option maxHeartbeats 1000000 in
theorem put_u32 (B g mb off : Nat) (v : Value) (bs : List UInt8) (cs : Array Value) (x : Nat) (w : World) (h : OutAt w B g v bs) (hm : Has w mb 34 cs) (hc : cs[off]? = some (.int .u32 (x : Int))) (hx : x < 256 ^ 4) (hb : bs.length ≤ 500000) :
    Calls Tryz.prog 31 #[.pointer (some ⟨g, 0, none⟩), .iface 94 (.pointer (some ⟨mb, off, none⟩))] w (OutStep w B g v (bs ++ putB 4 x)) := by
  have c0 := (hm.cell off).trans hc
  have hw : IntKind.u64.wrap (x : Int) = (x : Int) := IntWalk.u64_in _ (by omega)
  have C := Lib.hid (put_any B g v bs 4 (x : Int) w h (by omega) (by omega) (by omega))
  rw [show putI 4 (x : Int) = putB 4 x from putI_of 4 _ (by omega) (by omega)] at C
  have a0 := Tryz.as_u32_u8 ⟨mb, off, none⟩
  have a1 := Tryz.as_u32_u16 ⟨mb, off, none⟩
  have a2 := Tryz.as_u32_u32 ⟨mb, off, none⟩
  clear h hm hc
  go_enter Tryz.func31, Tryz.ntmps31
  go_wp2_with fail
  refine C.out.mono ?_
  rintro e w1 ⟨v1, rfl, st⟩
  have R : Hid (OutStep w B g v (bs ++ putB 4 x) (.returned (.tuple #[])) w1) := ⟨v1, rfl, st⟩
  clear C st c0
  go_wp2
  go_end0
  exact R.out

set_option maxHeartbeats 1000000 in
theorem put_u64 (B g mb off : Nat) (v : Value) (bs : List UInt8) (cs : Array Value) (x : Nat) (w : World) (h : OutAt w B g v bs) (hm : Has w mb 34 cs) (hc : cs[off]? = some (.int .u64 (x : Int))) (hx : x < 256 ^ 8) (hb : bs.length ≤ 500000) :
    Calls Tryz.prog 31 #[.pointer (some ⟨g, 0, none⟩), .iface 101 (.pointer (some ⟨mb, off, none⟩))] w (OutStep w B g v (bs ++ putB 8 x)) := by
  have c0 := (hm.cell off).trans hc
  have hw : IntKind.u64.wrap (x : Int) = (x : Int) := IntWalk.u64_in _ (by omega)
  have C := Lib.hid (put_any B g v bs 8 (x : Int) w h (by omega) (by omega) (by omega))
  rw [show putI 8 (x : Int) = putB 8 x from putI_of 8 _ (by omega) (by omega)] at C
  have a0 := Tryz.as_u64_u8 ⟨mb, off, none⟩
  have a1 := Tryz.as_u64_u16 ⟨mb, off, none⟩
  have a2 := Tryz.as_u64_u32 ⟨mb, off, none⟩
  have a3 := Tryz.as_u64_u64 ⟨mb, off, none⟩
  clear h hm hc
  go_enter Tryz.func31, Tryz.ntmps31
  go_wp2_with fail
  refine C.out.mono ?_
  rintro e w1 ⟨v1, rfl, st⟩
  have R : Hid (OutStep w B g v (bs ++ putB 8 x) (.returned (.tuple #[])) w1) := ⟨v1, rfl, st⟩
  clear C st c0
  go_wp2
  go_end0
  exact R.out

set_option maxHeartbeats 1000000 in
theorem put_text (B g mb off : Nat) (v : Value) (bs : List UInt8) (cs : Array Value) (l : List UInt8) (w : World) (h : OutAt w B g v bs) (hm : Has w mb 34 cs) (hc : cs[off]? = some (.string (strOf l))) (hT : Tabs w) (hl : l.length ≤ 1000) (hb : bs.length ≤ 500000) :
    Calls Tryz.prog 31 #[.pointer (some ⟨g, 0, none⟩), .iface 95 (.pointer (some ⟨mb, off, none⟩))] w (PutStep w B g v bs (wrongOf l) (textB l)) := by
  have c0 := (hm.cell off).trans hc
  have C := Lib.hid (puttext_any B g v bs l w h hT hl (by omega))
  have a0 := Tryz.as_text_u8 ⟨mb, off, none⟩
  have a1 := Tryz.as_text_u16 ⟨mb, off, none⟩
  have a2 := Tryz.as_text_u32 ⟨mb, off, none⟩
  have a3 := Tryz.as_text_u64 ⟨mb, off, none⟩
  have a4 := Tryz.as_text_text ⟨mb, off, none⟩
  obtain ⟨er, her⟩ : ∃ er, er = wrongOf l := ⟨_, rfl⟩
  obtain ⟨mo, hmo⟩ : ∃ mo, mo = textB l := ⟨_, rfl⟩
  rw [← her, ← hmo] at C ⊢
  clear h hm hc her hmo
  go_enter Tryz.func31, Tryz.ntmps31
  go_wp2_with fail
  refine C.out.mono ?_
  intro e w1 st
  rcases st with ⟨hz, v1, rfl, st⟩ | ⟨hz, rfl, st⟩
  · have R : Hid (PutStep w B g v bs er mo (.returned (.tuple #[])) w1) := .inl ⟨hz, v1, rfl, st⟩
    clear C st hz
    go_wp2
    go_end0
    exact R.out
  · have R : Hid (PutStep w B g v bs er mo (.panicked [{ v := .iface 35 (.int .i64 er), recovered := false }]) w1) := .inr ⟨hz, rfl, st⟩
    clear C st hz
    go_wp2
    exact ⟨rfl, R.out⟩

set_option maxHeartbeats 1000000 in
theorem put_texts (B g mb off : Nat) (v : Value) (bs : List UInt8) (cs : Array Value) (L : List (List UInt8)) (lo hi : Nat) (w : World) (h : OutAt w B g v bs) (hm : Has w mb 34 cs) (hc : FAt w lo hi cs off (.texts L)) (hT : Tabs w) (hB : 1 < B ∧ 2 < B) (hhi : hi ≤ B) (hL : ∀ l ∈ L, l.length ≤ 1000) (hl : L.length ≤ 1000) (hb : bs.length ≤ 500000) :
    Calls Tryz.prog 31 #[.pointer (some ⟨g, 0, none⟩), .iface 98 (.pointer (some ⟨mb, off, none⟩))] w (PutStep w B g v bs (fErr (.texts L)) (fB (.texts L))) := by
  obtain ⟨x, hc, hx⟩ := hc
  have c0 := (hm.cell off).trans hc
  obtain ⟨A, c, hxe, _⟩ := id hx
  rw [hxe] at c0 hx
  clear hxe
  have C := Lib.hid (putlists_any B g v _ bs L lo hi w h hT hB hx hhi hL hl hb)
  have a0 := Tryz.as_texts_u8 ⟨mb, off, none⟩
  have a1 := Tryz.as_texts_u16 ⟨mb, off, none⟩
  have a2 := Tryz.as_texts_u32 ⟨mb, off, none⟩
  have a3 := Tryz.as_texts_u64 ⟨mb, off, none⟩
  have a4 := Tryz.as_texts_text ⟨mb, off, none⟩
  have a5 := Tryz.as_texts_texts ⟨mb, off, none⟩
  obtain ⟨er, her⟩ : ∃ er, er = fErr (.texts L) := ⟨_, rfl⟩
  obtain ⟨mo, hmo⟩ : ∃ mo, mo = fB (.texts L) := ⟨_, rfl⟩
  rw [← her, ← hmo] at C ⊢
  clear h hm hc her hmo
  go_enter Tryz.func31, Tryz.ntmps31
  go_wp2_with fail
  refine C.out.mono ?_
  intro e w1 st
  rcases st with ⟨hz, v1, rfl, st⟩ | ⟨hz, rfl, st⟩
  · have R : Hid (PutStep w B g v bs er mo (.returned (.tuple #[])) w1) := .inl ⟨hz, v1, rfl, st⟩
    clear C st hz
    go_wp2
    go_end0
    exact R.out
  · have R : Hid (PutStep w B g v bs er mo (.panicked [{ v := .iface 35 (.int .i64 er), recovered := false }]) w1) := .inr ⟨hz, rfl, st⟩
    clear C st hz
    go_wp2
    exact ⟨rfl, R.out⟩

set_option maxHeartbeats 1000000 in
theorem put_qid (B g mb off : Nat) (v : Value) (bs : List UInt8) (cs : Array Value) (q : Q3) (w : World) (h : OutAt w B g v bs) (hm : Has w mb 34 cs) (hc : cs[off]? = some (.int .u8 (q.t : Int)) ∧ cs[off + 1]? = some (.int .u32 (q.v : Int)) ∧ cs[off + 2]? = some (.int .u64 (q.p : Int))) (hq : q.Ok) (hb : bs.length ≤ 500000) :
    Calls Tryz.prog 31 #[.pointer (some ⟨g, 0, none⟩), .iface 96 (.pointer (some ⟨mb, off, none⟩))] w (OutStep w B g v (bs ++ qidB q)) := by
  have c0 := (hm.cell off).trans hc.1
  have c1 := (hm.cell (off + 1)).trans hc.2.1
  have c2 := (hm.cell (off + 2)).trans hc.2.2
  have C : Hid (Calls Tryz.prog 53 #[.pointer (some ⟨g, 0, none⟩), .agg #[.int .u8 (q.t : Int), .int .u32 (q.v : Int), .int .u64 (q.p : Int)]] w (OutStep w B g v (bs ++ qidB q))) := qidput_any B g v bs q w h hq (by omega)
  have a0 := Tryz.as_qid_u8 ⟨mb, off, none⟩
  have a1 := Tryz.as_qid_u16 ⟨mb, off, none⟩
  have a2 := Tryz.as_qid_u32 ⟨mb, off, none⟩
  have a3 := Tryz.as_qid_u64 ⟨mb, off, none⟩
  have a4 := Tryz.as_qid_text ⟨mb, off, none⟩
  have a5 := Tryz.as_qid_texts ⟨mb, off, none⟩
  have a6 := Tryz.as_qid_qid ⟨mb, off, none⟩
  clear h hm hc
  go_enter Tryz.func31, Tryz.ntmps31
  go_wp2_with fail
  refine C.out.mono ?_
  rintro e w1 ⟨v1, rfl, st⟩
  have R : Hid (OutStep w B g v (bs ++ qidB q) (.returned (.tuple #[])) w1) := ⟨v1, rfl, st⟩
  clear C st c0 c1 c2
  go_wp2
  go_end0
  exact R.out

set_option maxHeartbeats 1000000 in
theorem put_qids (B g mb off : Nat) (v : Value) (bs : List UInt8) (cs : Array Value) (L : List Q3) (lo hi : Nat) (w : World) (h : OutAt w B g v bs) (hm : Has w mb 34 cs) (hc : FAt w lo hi cs off (.qids L)) (hhi : hi ≤ B) (hL : ∀ q ∈ L, q.Ok) (hl : L.length ≤ 1000) (hb : bs.length ≤ 500000) :
    Calls Tryz.prog 31 #[.pointer (some ⟨g, 0, none⟩), .iface 99 (.pointer (some ⟨mb, off, none⟩))] w (PutStep w B g v bs (fErr (.qids L)) (fB (.qids L))) := by
  obtain ⟨x, hc, hx⟩ := hc
  have c0 := (hm.cell off).trans hc
  obtain ⟨A, c, hxe, _⟩ := id hx
  rw [hxe] at c0 hx
  clear hxe
  have C := Lib.hid (putlistq_any B g v _ bs L lo hi w h hx hhi hL hl hb)
  have a0 := Tryz.as_qids_u8 ⟨mb, off, none⟩
  have a1 := Tryz.as_qids_u16 ⟨mb, off, none⟩
  have a2 := Tryz.as_qids_u32 ⟨mb, off, none⟩
  have a3 := Tryz.as_qids_u64 ⟨mb, off, none⟩
  have a4 := Tryz.as_qids_text ⟨mb, off, none⟩
  have a5 := Tryz.as_qids_texts ⟨mb, off, none⟩
  have a6 := Tryz.as_qids_qid ⟨mb, off, none⟩
  have a7 := Tryz.as_qids_qids ⟨mb, off, none⟩
  obtain ⟨er, her⟩ : ∃ er, er = fErr (.qids L) := ⟨_, rfl⟩
  obtain ⟨mo, hmo⟩ : ∃ mo, mo = fB (.qids L) := ⟨_, rfl⟩
  rw [← her, ← hmo] at C ⊢
  clear h hm hc her hmo
  go_enter Tryz.func31, Tryz.ntmps31
  go_wp2_with fail
  refine C.out.mono ?_
  intro e w1 st
  rcases st with ⟨hz, v1, rfl, st⟩ | ⟨hz, rfl, st⟩
  · have R : Hid (PutStep w B g v bs er mo (.returned (.tuple #[])) w1) := .inl ⟨hz, v1, rfl, st⟩
    clear C st hz
    go_wp2
    go_end0
    exact R.out
  · have R : Hid (PutStep w B g v bs er mo (.panicked [{ v := .iface 35 (.int .i64 er), recovered := false }]) w1) := .inr ⟨hz, rfl, st⟩
    clear C st hz
    go_wp2
    exact ⟨rfl, R.out⟩

set_option maxHeartbeats 1000000 in
theorem put_data (B g mb off : Nat) (v : Value) (bs : List UInt8) (cs : Array Value) (b : List UInt8) (lo hi : Nat) (w : World) (h : OutAt w B g v bs) (hm : Has w mb 34 cs) (hc : FAt w lo hi cs off (.data b)) (hhi : hi ≤ B) (hl : b.length ≤ 100000) (hb : bs.length ≤ 500000) :
    Calls Tryz.prog 31 #[.pointer (some ⟨g, 0, none⟩), .iface 102 (.pointer (some ⟨mb, off, none⟩))] w (PutStep w B g v bs (fErr (.data b)) (fB (.data b))) := by
  obtain ⟨x, hc, hx⟩ := hc
  have c0 := (hm.cell off).trans hc
  obtain ⟨A, c, hxe, _⟩ := id hx
  rw [hxe] at c0 hx
  clear hxe
  have C := Lib.hid (putdata_any B g v _ bs b lo hi w h hx hhi hl (by omega))
  have a0 := Tryz.as_data_u8 ⟨mb, off, none⟩
  have a1 := Tryz.as_data_u16 ⟨mb, off, none⟩
  have a2 := Tryz.as_data_u32 ⟨mb, off, none⟩
  have a3 := Tryz.as_data_u64 ⟨mb, off, none⟩
  have a4 := Tryz.as_data_text ⟨mb, off, none⟩
  have a5 := Tryz.as_data_texts ⟨mb, off, none⟩
  have a6 := Tryz.as_data_qid ⟨mb, off, none⟩
  have a7 := Tryz.as_data_qids ⟨mb, off, none⟩
  have a8 := Tryz.as_data_data ⟨mb, off, none⟩
  obtain ⟨er, her⟩ : ∃ er, er = fErr (.data b) := ⟨_, rfl⟩
  obtain ⟨mo, hmo⟩ : ∃ mo, mo = fB (.data b) := ⟨_, rfl⟩
  rw [← her, ← hmo] at C ⊢
  clear h hm hc her hmo
  go_enter Tryz.func31, Tryz.ntmps31
  go_wp2_with fail
  refine C.out.mono ?_
  intro e w1 st
  rcases st with ⟨hz, v1, rfl, st⟩ | ⟨hz, rfl, st⟩
  · have R : Hid (PutStep w B g v bs er mo (.returned (.tuple #[])) w1) := .inl ⟨hz, v1, rfl, st⟩
    clear C st hz
    go_wp2
    go_end0
    exact R.out
  · have R : Hid (PutStep w B g v bs er mo (.panicked [{ v := .iface 35 (.int .i64 er), recovered := false }]) w1) := .inr ⟨hz, rfl, st⟩
    clear C st hz
    go_wp2
    exact ⟨rfl, R.out⟩

set_option maxHeartbeats 1000000 in
theorem put_stat (B g mb off : Nat) (v : Value) (bs : List UInt8) (cs : Array Value) (s : S11) (w : World) (h : OutAt w B g v bs) (hm : Has w mb 34 cs) (hc : ∀ j, j < 13 → cs[off + j]? = s.cells[j]?) (hT : Tabs w) (hn : s.Num) (hs : s.Few) (hb : bs.length ≤ 500000) :
    Calls Tryz.prog 31 #[.pointer (some ⟨g, 0, none⟩), .iface 103 (.pointer (some ⟨mb, off, none⟩))] w (PutStep w B g v bs (wrongL s.texts) (putB 2 s.size ++ recB s)) := by
  have d0 : w.cell? ⟨mb, off, none⟩ = some (.int .u16 (s.k : Int)) := (hm.cell off).trans (hc 0 (by omega))
  have d1 : w.cell? ⟨mb, off + 1, none⟩ = some (.int .u32 (s.d : Int)) := (hm.cell (off + 1)).trans (hc 1 (by omega))
  have d2 : w.cell? ⟨mb, off + 2, none⟩ = some (.int .u8 (s.q.t : Int)) := (hm.cell (off + 2)).trans (hc 2 (by omega))
  have d3 : w.cell? ⟨mb, off + 3, none⟩ = some (.int .u32 (s.q.v : Int)) := (hm.cell (off + 3)).trans (hc 3 (by omega))
  have d4 : w.cell? ⟨mb, off + 4, none⟩ = some (.int .u64 (s.q.p : Int)) := (hm.cell (off + 4)).trans (hc 4 (by omega))
  have d5 : w.cell? ⟨mb, off + 5, none⟩ = some (.int .u32 (s.m : Int)) := (hm.cell (off + 5)).trans (hc 5 (by omega))
  have d6 : w.cell? ⟨mb, off + 6, none⟩ = some (.int .u32 (s.a : Int)) := (hm.cell (off + 6)).trans (hc 6 (by omega))
  have d7 : w.cell? ⟨mb, off + 7, none⟩ = some (.int .u32 (s.c : Int)) := (hm.cell (off + 7)).trans (hc 7 (by omega))
  have d8 : w.cell? ⟨mb, off + 8, none⟩ = some (.int .u64 (s.l : Int)) := (hm.cell (off + 8)).trans (hc 8 (by omega))
  have d9 : w.cell? ⟨mb, off + 9, none⟩ = some (.string (strOf s.n)) := (hm.cell (off + 9)).trans (hc 9 (by omega))
  have d10 : w.cell? ⟨mb, off + 10, none⟩ = some (.string (strOf s.u)) := (hm.cell (off + 10)).trans (hc 10 (by omega))
  have d11 : w.cell? ⟨mb, off + 11, none⟩ = some (.string (strOf s.g)) := (hm.cell (off + 11)).trans (hc 11 (by omega))
  have d12 : w.cell? ⟨mb, off + 12, none⟩ = some (.string (strOf s.x)) := (hm.cell (off + 12)).trans (hc 12 (by omega))
  have C1 := putrecord_any B g v bs s w h hT hn hs (by omega)
  unfold S11.val S11.cells at C1
  have C := Lib.hid (C1)
  have a0 := Tryz.as_stat_u8 ⟨mb, off, none⟩
  have a1 := Tryz.as_stat_u16 ⟨mb, off, none⟩
  have a2 := Tryz.as_stat_u32 ⟨mb, off, none⟩
  have a3 := Tryz.as_stat_u64 ⟨mb, off, none⟩
  have a4 := Tryz.as_stat_text ⟨mb, off, none⟩
  have a5 := Tryz.as_stat_texts ⟨mb, off, none⟩
  have a6 := Tryz.as_stat_qid ⟨mb, off, none⟩
  have a7 := Tryz.as_stat_qids ⟨mb, off, none⟩
  have a8 := Tryz.as_stat_data ⟨mb, off, none⟩
  have a9 := Tryz.as_stat_stat ⟨mb, off, none⟩
  obtain ⟨er, her⟩ : ∃ er, er = wrongL s.texts := ⟨_, rfl⟩
  obtain ⟨mo, hmo⟩ : ∃ mo, mo = putB 2 s.size ++ recB s := ⟨_, rfl⟩
  rw [← her, ← hmo] at C ⊢
  clear h hm hc her hmo
  go_enter Tryz.func31, Tryz.ntmps31
  go_wp2_with fail
  refine C.out.mono ?_
  intro e w1 st
  rcases st with ⟨hz, v1, rfl, st⟩ | ⟨hz, rfl, st⟩
  · have R : Hid (PutStep w B g v bs er mo (.returned (.tuple #[])) w1) := .inl ⟨hz, v1, rfl, st⟩
    clear C st hz
    go_wp2
    go_end0
    exact R.out
  · have R : Hid (PutStep w B g v bs er mo (.panicked [{ v := .iface 35 (.int .i64 er), recovered := false }]) w1) := .inr ⟨hz, rfl, st⟩
    clear C st hz
    go_wp2
    exact ⟨rfl, R.out⟩

/-- The four widths. -/
theorem std_num {n : Nat} (h : K.std (.num n)) : n = 1 ∨ n = 2 ∨ n = 4 ∨ n = 8 := h
theorem putf_any (B g mb off lo hi : Nat) (v : Value) (bs : List UInt8) (cs : Array Value) (f : F) (w : World) (h : OutAt w B g v bs) (hm : Has w mb 34 cs) (hf : FAt w lo hi cs off f) (hk : f.kind.std) (hok : f.Ok) (hfew : f.Few)
    (hT : Tabs w) (hB : 1 < B ∧ 2 < B) (hhi : hi ≤ B) (hb : bs.length ≤ 500000) :
    Calls Tryz.prog 31 #[.pointer (some ⟨g, 0, none⟩), .iface f.kind.ptr (.pointer (some ⟨mb, off, none⟩))] w (PutStep w B g v bs (fErr f) (fB f)) := by
  cases f with
  | num n x =>
    obtain ⟨_, _, hx⟩ := hok
    rcases std_num hk with rfl | rfl | rfl | rfl
    · exact (put_u8 B g mb off v bs cs x w h hm hf hx hb).mono fun e w' st => .inl ⟨rfl, st⟩
    · exact (put_u16 B g mb off v bs cs x w h hm hf hx hb).mono fun e w' st => .inl ⟨rfl, st⟩
    · exact (put_u32 B g mb off v bs cs x w h hm hf hx hb).mono fun e w' st => .inl ⟨rfl, st⟩
    · exact (put_u64 B g mb off v bs cs x w h hm hf hx hb).mono fun e w' st => .inl ⟨rfl, st⟩
  | text l => exact put_text B g mb off v bs cs l w h hm hf hT hfew hb
  | texts L => exact put_texts B g mb off v bs cs L lo hi w h hm hf hT hB hhi hfew.2 hfew.1 hb
  | qid q => exact (put_qid B g mb off v bs cs q w h hm hf hok hb).mono fun e w' st => .inl ⟨rfl, st⟩
  | qids L => exact put_qids B g mb off v bs cs L lo hi w h hm hf hhi hok hfew hb
  | data b => exact put_data B g mb off v bs cs b lo hi w h hm hf hhi hfew hb
  | stat s => exact put_stat B g mb off v bs cs s w h hm hf hT hok hfew hb
end Go.Proofs.YtepiifbleoimkaaGreatDoor
