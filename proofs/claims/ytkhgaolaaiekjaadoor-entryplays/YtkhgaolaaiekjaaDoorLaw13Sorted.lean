/-
  EntrySorted: in whichever order names are put, the row is the same.
-/
import Derived.Test.YtkhgaolaaiekjaaDoorEntH
namespace Go.Proofs.YtkhgaolaaiekjaaDoor
open Go.RowKit Go.Lib
set_option maxRecDepth 100000

/-- A slice that reads as these texts. -/
def SsIs (w : World) (E : Nat → Prop) (v : Value) (ns : List (List UInt8)) : Prop := RwIs w E ns.length v (strs ns)
theorem SsIs.at {w : World} {E : Nat → Prop} {v : Value} {ns : List (List UInt8)} (h : SsIs w E v ns) {k : Nat} (hk : k < ns.length) :
    ∃ ad c, v = .slice (some ad) ns.length c ∧ w.cell? (ad.add k) = some (.string (strOf ns[k])) := by
  obtain ⟨A, c, e, h3⟩ := h
  have hl : (strs ns).length = ns.length := by simp [strs]
  obtain ⟨ad, q1, q2, q3, q4⟩ := h3 (by omega)
  refine ⟨ad, c, by rw [e, q1], q4 _ _ ?_⟩
  simp [strs, hk]
/-- A row made behind w, and nothing that was there has turned. -/
def At13 (w : World) (v : Value) (l : List En) (wr : World) : Prop := EsIs wr (fun i => w.heap.size ≤ i) v l ∧ Still w wr
theorem At13.still {w wr w' : World} {v : Value} {l : List En} (h : At13 w v l wr) (k : Still wr w') : At13 w v l w' := ⟨EsIs.only h.1 k (fun _ _ _ h => h), h.2.trans k⟩

/-- What putting one name more leaves. -/
theorem put_one (HP : PutSpec) {w wr : World} (hT : Tabs w) {v : Value} {l : List En} (h : At13 w v l wr) (hg : Good l) (hs : Sev l) (hl : l.length ≤ 1000) (n : List UInt8) (hn : n.length ≤ 1000) :
    Calls Tryd.prog 15 #[v, .agg #[.string (strOf n), .int .u32 7]] wr fun e w' => ∃ A m c, e = .returned (.tuple #[.slice A m c, .int .i64 (putEr l ⟨n, 7⟩)]) ∧ (putEr l ⟨n, 7⟩ = 0 → At13 w (.slice A m c) (addN l n) w') ∧ (putEr l ⟨n, 7⟩ ≠ 0 → At13 w v (addN l n) w') ∧ Still wr w' :=
  (HP _ v l ⟨n, 7⟩ wr (hT.still h.2) hg (fun x hx => by rw [hs x hx]; decide) hl hn (by simp) h.1).mono fun e w' hh => by
    obtain ⟨A, c, rfl, h1, h2⟩ := hh
    refine ⟨A, _, c, rfl, fun hz => ?_, fun hz => ?_, h2⟩
    · have e1 : putL l ⟨n, 7⟩ = putE l ⟨n, 7⟩ := if_pos hz
      have e2 : addN l n = putE l ⟨n, 7⟩ := if_pos hz
      rw [e1] at h1 ⊢
      rw [e2]
      exact ⟨EsIs.mono h1 (fun i _ hi => Nat.le_trans h.2.size hi), h.2.trans h2⟩
    · have e2 : addN l n = l := if_neg hz
      rw [e2]
      exact h.still h2

set_option maxHeartbeats 4000000 in
theorem sorted13_any (HE : EncSpec) (HD : DecSpec) (HP : PutSpec) (HC : CutSpec) (HF : FindSpec) (E : Nat → Prop) (v : Value) (ns : List (List UInt8)) (t : Nat) (ht : t < 256) (w : World) (hT : Tabs w) (h : SsIs w E v ns) :
    Calls Tryd.prog 7 #[v, .int .u8 (t : Int)] w fun e w' => e = .returned (.bool true) ∧ Still w w' := by
  obtain ⟨A, c, rfl⟩ : ∃ A c, v = .slice A ns.length c := by
    obtain ⟨A, c, e, _⟩ := h
    exact ⟨A, c, e⟩
  have HK := Lib.hid (known13_any HE HD HP HC HF w hT)
  by_cases hl : ns.length ≤ 40
  · have d1 : decide (40 < (ns.length : Int)) = false := decide_eq_false (by omega)
    have HN : Hid (∀ W, Still w W → SsIs W E (.slice A ns.length c) ns) := Lib.hid (fun W k => RwIs.only h k (fun _ _ _ h => h))
    have C1 : Hid (∀ wr va k n, At13 w va (foldN (ns.take k)) wr → n.length ≤ 1000 → Calls Tryd.prog 15 #[va, .agg #[.string (strOf n), .int .u32 7]] wr fun e w' => ∃ A m c, e = .returned (.tuple #[.slice A m c, .int .i64 (putEr (foldN (ns.take k)) ⟨n, 7⟩)]) ∧ (putEr (foldN (ns.take k)) ⟨n, 7⟩ = 0 → At13 w (.slice A m c) (addN (foldN (ns.take k)) n) w') ∧ (putEr (foldN (ns.take k)) ⟨n, 7⟩ ≠ 0 → At13 w va (addN (foldN (ns.take k)) n) w') ∧ Still wr w') := Lib.hid (fun wr va k n a hn =>
      put_one HP hT a (foldN_good _) (foldN_sev _) (by have := foldN_len (ns.take k); rw [List.length_take] at this; omega) n hn)
    have C2 : Hid (∀ wr va k n, At13 w va (foldN ((rotN ns t).take k)) wr → n.length ≤ 1000 → Calls Tryd.prog 15 #[va, .agg #[.string (strOf n), .int .u32 7]] wr fun e w' => ∃ A m c, e = .returned (.tuple #[.slice A m c, .int .i64 (putEr (foldN ((rotN ns t).take k)) ⟨n, 7⟩)]) ∧ (putEr (foldN ((rotN ns t).take k)) ⟨n, 7⟩ = 0 → At13 w (.slice A m c) (addN (foldN ((rotN ns t).take k)) n) w') ∧ (putEr (foldN ((rotN ns t).take k)) ⟨n, 7⟩ ≠ 0 → At13 w va (addN (foldN ((rotN ns t).take k)) n) w') ∧ Still wr w') := Lib.hid (fun wr va k n a hn =>
      put_one HP hT a (foldN_good _) (foldN_sev _) (by have := foldN_len ((rotN ns t).take k); rw [List.length_take, rotN_length] at this; omega) n hn)
    clear HE HD HP HC HF h hT
    go_enter Tryd.func7, Tryd.ntmps7
    go_wp2_with fail
    refine HK.out.mono ?_
    rintro e w1 ⟨rfl, k1⟩
    have H0 : Hid (At13 w (.slice none 0 0) (foldN (ns.take 0)) w1) := Lib.hid ⟨es_nil w1 _, k1⟩
    clear k1 HK
    go_wp2_with fail
    go_loopw [5, 7, 8, 9] (fun va i _ _ wr => ∃ k : Nat, k ≤ ns.length ∧ i = .int .i64 k ∧ Hid (At13 w va (foldN (ns.take k)) wr ∧ ∀ j (hj : j < ns.length), j < k → (ns[j]).length ≤ 100)) (fun _ i _ _ _ => ns.length - (intOf i).toNat)
    case atStart => exact ⟨0, Nat.zero_le _, rfl, Lib.hid ⟨H0.out, fun j _ h => absurd h (by omega)⟩⟩
    case round =>
      obtain ⟨k, hk, rfl, hrel⟩ := hrel
      clear H0
      by_cases hlt : k < ns.length
      · obtain ⟨ad, c', e, z⟩ := SsIs.at (HN.out _ hrel.out.1.2) hlt
        injection e with e1 _ e2
        subst e1 e2
        obtain ⟨n, hn⟩ : ∃ n, n = ns[k] := ⟨_, rfl⟩
        rw [← hn] at z
        have i0 : (0 : Int) ≤ (k : Int) := by omega
        have i1 : (k : Int) < (ns.length : Int) := by omega
        have sz : (strOf n).size = n.length := rfl
        by_cases h100 : n.length ≤ 100
        · have d2 : decide (100 < (n.length : Int)) = false := decide_eq_false (by omega)
          have D := Lib.hid (C1.out _ _ k n hrel.out.1 (by omega))
          have TK : Hid (foldN (ns.take (k + 1)) = addN (foldN (ns.take k)) n) := Lib.hid (by rw [foldN_take ns k hlt, ← hn])
          have R100 : Hid (∀ j (hj : j < ns.length), j < k + 1 → (ns[j]).length ≤ 100) := Lib.hid (fun j hj h1 => by
            rcases Nat.lt_or_eq_of_le (Nat.le_of_lt_succ h1) with h2 | h2
            · exact hrel.out.2 j hj h2
            · subst h2
              rw [← hn]
              exact h100)
          clear hn hrel C1 C2 HN
          go_wp2_with fail
          refine D.out.mono ?_
          rintro e w3 ⟨A3, m3, c3, rfl, p1, p2, _⟩
          by_cases hz : putEr (foldN (ns.take k)) ⟨n, 7⟩ = 0
          · have q := p1 hz
            rw [← TK.out] at q
            have R : Hid (At13 w (.slice A3 m3 c3) (foldN (ns.take (k + 1))) w3 ∧ ∀ j (hj : j < ns.length), j < k + 1 → (ns[j]).length ≤ 100) := Lib.hid ⟨q, R100.out⟩
            rw [hz]
            clear hz q p1 p2 TK R100 D
            go_wp2
            go_roundw
            case rel => exact ⟨k + 1, by omega, by go_num, R⟩
            case measure => simp [intOf]; omega
          · have q := p2 hz
            rw [← TK.out] at q
            have R : Hid (At13 w _ (foldN (ns.take (k + 1))) w3 ∧ ∀ j (hj : j < ns.length), j < k + 1 → (ns[j]).length ≤ 100) := Lib.hid ⟨q, R100.out⟩
            have d3 : (putEr (foldN (ns.take k)) ⟨n, 7⟩ == 0) = false := by simpa using hz
            generalize putEr (foldN (ns.take k)) ⟨n, 7⟩ = r at *
            clear q p1 p2 TK R100 D
            go_wp2
            go_roundw
            case rel => exact ⟨k + 1, by omega, by go_num, R⟩
            case measure => simp [intOf]; omega
        · have d2 : decide (100 < (n.length : Int)) = true := decide_eq_true (by omega)
          have R := Lib.hid hrel.out.1.2
          clear hn hrel C1 C2 HN
          go_wp2
          go_ret
          exact ⟨rfl, R.out⟩
      · have HA := Lib.hid hrel.out.1
        rw [List.take_of_length_le (by omega)] at HA
        have H1 := Lib.hid (fun j (hj : j < ns.length) => hrel.out.2 j hj (by omega))
        obtain ⟨Aa, ca, hva⟩ := HA.out.1.form
        subst hva
        have LA := foldN_len ns
        obtain ⟨RA, hRA⟩ : ∃ RA, RA = foldN ns := ⟨_, rfl⟩
        have HRA := Lib.hid hRA
        rw [← hRA] at HA LA ⊢
        clear hRA
        have H0 : Hid (At13 w (.slice none 0 0) (foldN ((rotN ns t).take 0)) wr ∧ Still wr wr) := Lib.hid ⟨⟨es_nil wr _, HA.out.2⟩, Still.refl wr⟩
        clear hrel C1
        go_wp2_with fail
        obtain ⟨V0, hV0⟩ : ∃ V0, V0 = wr := ⟨_, rfl⟩
        subst hV0
        go_loopw [6, 10, 11, 12] (fun vb i _ _ wr => ∃ k : Nat, k ≤ ns.length ∧ i = .int .i64 k ∧ Hid (At13 w vb (foldN ((rotN ns t).take k)) wr ∧ Still V0 wr)) (fun _ i _ _ _ => ns.length - (intOf i).toNat)
        case atStart => exact ⟨0, Nat.zero_le _, rfl, H0⟩
        case round =>
          obtain ⟨k, hk, rfl, hrel⟩ := hrel
          clear H0
          by_cases hlt : k < ns.length
          · have hm : (k + t) % ns.length < ns.length := Nat.mod_lt _ (by omega)
            obtain ⟨ad, c', e, z⟩ := SsIs.at (HN.out _ hrel.out.1.2) hm
            injection e with e1 _ e2
            subst e1 e2
            have hkr : k < (rotN ns t).length := by rw [rotN_length]; exact hlt
            obtain ⟨n, hn⟩ : ∃ n, n = ns[(k + t) % ns.length] := ⟨_, rfl⟩
            have h100 := H1.out _ hm
            rw [← hn] at z h100
            have D := Lib.hid (C2.out _ _ k n hrel.out.1 (by omega))
            have TK : Hid (foldN ((rotN ns t).take (k + 1)) = addN (foldN ((rotN ns t).take k)) n) := Lib.hid (by rw [foldN_take _ k hkr, rotN_get ns t k hm hkr, ← hn])
            have KV := Lib.hid hrel.out.2
            have hmm : ((k : Int) + (t : Int)) % (ns.length : Int) = (((k + t) % ns.length : Nat) : Int) := by
              rw [Int.natCast_emod]
              rfl
            have hmt : ((k : Int) + (t : Int)).tmod (ns.length : Int) = (((k + t) % ns.length : Nat) : Int) := by
              rw [Int.tmod_eq_emod_of_nonneg (by omega)]
              exact hmm
            generalize (k + t) % ns.length = j at *
            have i0 : (0 : Int) ≤ (j : Int) := by omega
            have i1 : (j : Int) < (ns.length : Int) := by omega
            have n0 : ¬ ((ns.length : Int) = 0) := by omega
            clear hn hrel C2 HN H1
            go_wp2_with fail
            refine D.out.mono ?_
            rintro e w3 ⟨A3, m3, c3, rfl, p1, p2, k3⟩
            by_cases hz : putEr (foldN ((rotN ns t).take k)) ⟨n, 7⟩ = 0
            · have q := p1 hz
              rw [← TK.out] at q
              have R : Hid (At13 w (.slice A3 m3 c3) (foldN ((rotN ns t).take (k + 1))) w3 ∧ Still V0 w3) := Lib.hid ⟨q, KV.out.trans k3⟩
              rw [hz]
              clear hz q p1 p2 TK D k3 KV
              go_wp2
              go_roundw
              case rel => exact ⟨k + 1, by omega, by go_num, R⟩
              case measure => simp [intOf]; omega
            · have q := p2 hz
              rw [← TK.out] at q
              have R : Hid (At13 w _ (foldN ((rotN ns t).take (k + 1))) w3 ∧ Still V0 w3) := Lib.hid ⟨q, KV.out.trans k3⟩
              have d3 : (putEr (foldN ((rotN ns t).take k)) ⟨n, 7⟩ == 0) = false := by simpa using hz
              generalize putEr (foldN ((rotN ns t).take k)) ⟨n, 7⟩ = r at *
              clear q p1 p2 TK D k3 KV
              go_wp2
              go_roundw
              case rel => exact ⟨k + 1, by omega, by go_num, R⟩
              case measure => simp [intOf]; omega
          · have HB := Lib.hid hrel.out.1
            rw [List.take_of_length_le (by rw [rotN_length]; omega), foldN_ext (rotN_mem ns t), ← HRA.out] at HB
            have KV := Lib.hid hrel.out.2
            obtain ⟨Ab, cb, hvb⟩ := HB.out.1.form
            subst hvb
            have hA := EsIs.only HA.out.1 KV.out (fun _ _ _ h => h)
            have CS := Lib.hid (same13_any _ _ _ _ RA RA wr (by omega) hA HB.out.1)
            rw [decide_eq_true rfl] at CS
            have CC : Hid (∀ W, Still wr W → Calls Tryd.prog 11 #[.slice Aa RA.length ca] W fun e w' => e = .returned (.int .i64 0) ∧ ∃ q, w' = W.drewN q) := Lib.hid (fun W k => by
              have h1 := check13_any _ _ RA W (by omega) (fun x hx => by
                rw [HRA.out] at hx
                have := (name_ok ((foldN_good ns).1 x hx).1).1
                omega) (EsIs.only hA k (fun _ _ _ h => h))
              rwa [(chkE_good RA).2 (by rw [HRA.out]; exact foldN_good ns)] at h1)
            have KW := Lib.hid HB.out.2
            clear hrel HA HB KV hA C2 HN H1
            go_wp2_with fail
            refine CS.out.mono ?_
            rintro e w4 ⟨rfl, q4, hq4⟩
            have J4 : Hid (Still wr w4) := Lib.hid (by rw [hq4]; exact (Still.refl wr).drewN q4)
            clear hq4 CS
            go_wp2_with fail
            refine (CC.out _ J4.out).mono ?_
            rintro e w5 ⟨rfl, q5, hq5⟩
            have J5 : Hid (Still w w5) := Lib.hid (by rw [hq5]; exact (KW.out.trans J4.out).drewN q5)
            clear hq5 CC J4 KW
            go_wp2
            go_ret
            exact ⟨rfl, J5.out⟩
  · have d1 : decide (40 < (ns.length : Int)) = true := decide_eq_true (by omega)
    clear HE HD HP HC HF h hT
    go_enter Tryd.func7, Tryd.ntmps7
    go_wp2_with fail
    refine HK.out.mono ?_
    rintro e w1 ⟨rfl, k1⟩
    have R := Lib.hid k1
    clear k1 HK
    go_wp2
    go_ret
    exact ⟨rfl, R.out⟩
end Go.Proofs.YtkhgaolaaiekjaaDoor
