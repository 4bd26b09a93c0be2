import Derived.Test.YtleenphlgbklmabGreatDoorUPInsF
import Derived.Sort.Walk0
import Derived.Test.YtleenphlgbklmabGreatDoorUPInsA
set_option linter.unusedVariables false
set_option linter.unusedSimpArgs false
namespace Go.Proofs.YtleenphlgbklmabGreatDoor
open Go.RowKit

/-- the pure side: the sorted names and their texts. -/
theorem ins_pure {names own : List ByteArray} {kv : List (ByteArray × ByteArray)} {gs : List (Option Ty)} {sk : List (List UInt8)} (hnd : names.Nodup) (hM : MG names own kv gs) (hk : (kv.map Prod.fst).Nodup) (hall : ∀ i, i < names.length → gs.getD i none ≠ none) (hp : sk.Perm (kv.map fun y => y.1.data.toList)) (hs : sk.Pairwise (fun x y => decide (x ≤ y) = true)) :
    sk.length = names.length ∧ InP names.length (fun q => ⟨(sk.getD q []).toArray⟩) (fun q => keyT kv (sk.getD q [])) (fun k => names.getD k { data := #[] }) (fun k => match gs.getD k none with | some t => shT own t | none => { data := #[] }) := by
  have hin : ∀ n, n < names.length → names.getD n { data := #[] } ∈ kv.map Prod.fst := fun n hn => by
    obtain ⟨t, ht⟩ := Option.ne_none_iff_exists'.1 (hall n hn)
    obtain ⟨j, hj, _⟩ := hM.got n t ht
    obtain ⟨h1, h2, _⟩ := List.findIdx?_eq_some_iff_getElem.1 hj
    have e := (sameS_iff _ _).1 h2
    rw [← e]
    exact List.mem_map.2 ⟨_, List.getElem_mem h1, rfl⟩
  have hlen : kv.length = names.length := by
    have h1 := nodup_len (kv.map Prod.fst) names hk (fun x hx => by
      obtain ⟨y, hy, rfl⟩ := List.mem_map.1 hx
      obtain ⟨n, hn, e, _⟩ := hM.key y hy
      rw [e]
      simp [List.getD, hn])
    have h2 := nodup_len names (kv.map Prod.fst) hnd (fun x hx => by
      obtain ⟨i, hi, rfl⟩ := List.mem_iff_getElem.1 hx
      have := hin i hi
      simpa [List.getD, hi] using this)
    simp at h1 h2
    omega
  have hsl : sk.length = names.length := by rw [hp.length_eq]; simpa using hlen
  have hsn : sk.Nodup := by
    rw [hp.nodup_iff]
    have e : (kv.map fun y => y.1.data.toList) = (kv.map Prod.fst).map (fun (b : ByteArray) => b.data.toList) := by simp
    rw [e]
    exact List.Pairwise.map _ (fun a b hab e => hab ((sameS_iff a b).1 (by simp [sameS, e]))) hk
  refine ⟨hsl, fun k q hk hq e => ?_, fun q hq => ?_, fun k hk => ?_⟩
  · obtain ⟨t, ht⟩ := Option.ne_none_iff_exists'.1 (hall k hk)
    obtain ⟨j, hj, h2, _⟩ := hM.got k t ht
    simp only at e ⊢
    rw [ht]
    simp only
    unfold keyT
    rw [e, hj]
    exact h2
  · have h1 : q < sk.length := by omega
    have h2 : q + 1 < sk.length := by omega
    have hle := (List.pairwise_iff_getElem.1 hs) q (q + 1) h1 h2 (by omega)
    have hne := (List.pairwise_iff_getElem.1 hsn) q (q + 1) h1 h2 (by omega)
    simp only [decide_eq_true_eq] at hle
    rw [bytesLess_eq, Lib.toList_data, Lib.toList_data]
    simp only [List.getD, List.getElem?_eq_getElem h1, List.getElem?_eq_getElem h2, Option.getD_some, decide_eq_true_eq]
    rcases List.le_iff_lt_or_eq.1 hle with h | h
    · exact h
    · exact absurd h hne
  · have h1 := hin k hk
    obtain ⟨y, hy, e⟩ := List.mem_map.1 h1
    have h2 : y.1.data.toList ∈ sk := hp.mem_iff.2 (List.mem_map.2 ⟨y, hy, rfl⟩)
    obtain ⟨q, hq, e2⟩ := List.mem_iff_getElem.1 h2
    refine ⟨q, by omega, ?_⟩
    simp only [← e]
    simp only [List.getD, List.getElem?_eq_getElem hq, Option.getD_some, e2]
end Go.Proofs.YtleenphlgbklmabGreatDoor

namespace Go.Proofs.YtleenphlgbklmabGreatDoor
open Go.RowKit

theorem eqM_refl (t : Ty) : eqM t t = true := (eqM_iff t t).2 rfl
def Idn (gs : List (Option Ty)) (m : Nat) : Prop := (∀ i, i < m → gs.getD i none = some (.mk { data := #[] } i [])) ∧ ∀ i, m ≤ i → gs.getD i none = none
theorem matM_self {t : Ty} {m k : Nat} (h : FO t m k) : ∀ gs : List (Option Ty), k ≤ gs.length → Idn gs m → (matM t t gs).2 = true ∧ Idn (matM t t gs).1 k := by
  have two : ∀ (kd : ByteArray) (h0 : (kd.data.toList == []) = false) (a b : Ty) (j k : Nat), j ≤ k → ∀ gs : List (Option Ty), k ≤ gs.length → ((matM a a gs).2 = true ∧ Idn (matM a a gs).1 j) → (∀ gs : List (Option Ty), k ≤ gs.length → Idn gs j → (matM b b gs).2 = true ∧ Idn (matM b b gs).1 k) → (matM (.mk kd 0 [a, b]) (.mk kd 0 [a, b]) gs).2 = true ∧ Idn (matM (.mk kd 0 [a, b]) (.mk kd 0 [a, b]) gs).1 k := by
    intro kd h0 a b j k hjk gs hl f g
    obtain ⟨f1, f2⟩ := f
    obtain ⟨g1, g2⟩ := g (matM a a gs).1 (by rw [matM_len]; exact hl) f2
    rw [matM_two kd h0, if_pos f1, if_pos g1]
    exact ⟨rfl, g2⟩
  induction h with
  | old n m hn =>
    intro gs hl hI
    rw [matM_var, hI.1 n hn]
    exact ⟨eqM_refl _, hI⟩
  | new m =>
    intro gs hl hI
    rw [matM_var, hI.2 m (Nat.le_refl _)]
    refine ⟨rfl, fun i hi => ?_, fun i hi => ?_⟩
    · by_cases e : i = m
      · subst e
        simp [List.getD, show i < gs.length from by omega]
      · have := hI.1 i (by omega)
        simpa [List.getD, List.getElem?_set, Ne.symm e] using this
    · have := hI.2 i (by omega)
      simpa [List.getD, List.getElem?_set, show ¬ m = i from by omega] using this
  | int m => intro gs hl hI; exact ⟨by simp [matM, matMs], by simpa [matM, matMs] using hI⟩
  | bool m => intro gs hl hI; exact ⟨by simp [matM, matMs], by simpa [matM, matMs] using hI⟩
  | list a m k _ ih =>
    intro gs hl hI
    obtain ⟨h1, h2⟩ := ih gs hl hI
    rw [(matM_list a a gs).2 h1, (matM_list a a gs).1]
    exact ⟨h1, h2⟩
  | pair a b m j k ha hb ih ih2 =>
    intro gs hl hI
    exact two _ (by decide) a b j k hb.le gs hl (ih gs (by have := hb.le; omega) hI) (fun gs h => ih2 gs h)
  | fn a b m j k ha hb ih ih2 =>
    intro gs hl hI
    exact two _ (by decide) a b j k hb.le gs hl (ih gs (by have := hb.le; omega) hI) (fun gs h => ih2 gs h)
theorem match_self {t : Ty} {k : Nat} (h : FO t 0 k) : (matM t t (List.replicate k none)).2 = true := by
  refine (matM_self h _ (by simp) ⟨fun i hi => by omega, fun i _ => ?_⟩).1
  simp only [List.getD, List.getElem?_replicate]
  split <;> rfl
/-- p -> (q, [p]) -/
def tyPQ (p q : Ty) : Ty := .mk { data := #[102, 117, 110] } 0 [p, .mk { data := #[112, 97, 105, 114] } 0 [q, .mk { data := #[108, 105, 115, 116] } 0 [p]]]
theorem match_pq (x y : Ty) : matM (tyPQ (.mk { data := #[] } 0 []) (.mk { data := #[] } 1 [])) (tyPQ x y) (List.replicate 2 none) = ([some x, some y], true) := by
  unfold tyPQ
  rw [matM_two _ (by decide), matM_var]
  have e1 : (List.replicate 2 (none : Option Ty)).getD 0 none = none := rfl
  rw [e1]
  have e2 : (List.replicate 2 (none : Option Ty)).set 0 (some x) = [some x, none] := rfl
  simp only [if_true, e2]
  rw [matM_two _ (by decide), matM_var]
  have e3 : ([some x, none] : List (Option Ty)).getD 1 none = none := rfl
  rw [e3]
  have e4 : ([some x, none] : List (Option Ty)).set 1 (some y) = [some x, some y] := rfl
  simp only [if_true, e4]
  have e5 : matM (.mk { data := #[] } 0 []) x [some x, some y] = ([some x, some y], true) := by
    rw [matM_var]
    have e6 : ([some x, some y] : List (Option Ty)).getD 0 none = some x := rfl
    rw [e6]
    simp only [eqM_refl]
  rw [(matM_list _ _ _).2 (by rw [e5]), (matM_list _ _ _).1, e5]
  rfl
/-- the text that Renamed makes. -/
theorem tyPQ_fo {x y : Ty} {kx ky : Nat} (hx : FO x 0 kx) (hy : FO y 0 ky) : FO (tyPQ x y) 0 (max kx ky) := by
  unfold tyPQ
  have h1 := hy.shift kx
  have h2 := hx.shift (max kx ky)
  rw [Nat.zero_max] at h1 h2
  rw [Nat.max_comm ky kx] at h1
  rw [show max kx (max kx ky) = max kx ky from by omega] at h2
  exact .fn _ _ _ _ _ hx (.pair _ _ _ _ _ h1 (.list _ _ _ h2))
theorem shT_lets {t : Ty} {k K : Nat} (h : WT k t) (hK : k ≤ K) : shT (lets K) t = shT (lets k) t := shT_congr h _ _ (fun n hn => by rw [lets_get (by omega), lets_get hn])
def lftT (x : Ty) (a : ByteArray) : ByteArray := brkT (x.kind.data.toList == ({ data := #[102, 117, 110] } : ByteArray).data.toList) a
theorem tyPQ_txt {x y : Ty} {kx ky : Nat} (hx : FO x 0 kx) (hy : FO y 0 ky) : shT (lets (max kx ky)) (tyPQ x y) = lftT x (canT x) ++ { data := #[32, 45, 62, 32] } ++ ({ data := #[40] } ++ canT y ++ { data := #[44, 32] } ++ ({ data := #[91] } ++ canT x ++ { data := #[93] }) ++ { data := #[41] }) := by
  unfold tyPQ
  rw [shT_fn, shT_pair, shT_list, shT_lets hx.wt (by omega), shT_lets hy.wt (by omega), ← canT_lets hx, ← canT_lets hy]
  rfl
end Go.Proofs.YtleenphlgbklmabGreatDoor

namespace Go.Proofs.YtleenphlgbklmabGreatDoor
open Go.RowKit

def arrS : List UInt8 → Int → Bool
  | [], _ => false
  | c :: r, d => if r = [] then false else if c = 40 ∨ c = 91 then arrS r (d + 1) else if c = 41 ∨ c = 93 then arrS r (d - 1) else if c = 45 ∧ d = 0 then true else arrS r d
theorem u8_iff (c : UInt8) (k : Nat) (hk : k < 256) : c = UInt8.ofNat k ↔ (c.toNat : Int) = k := by
  constructor
  · intro e
    rw [e, UInt8.toNat_ofNat']
    omega
  · intro e
    apply UInt8.toNat_inj.1
    rw [UInt8.toNat_ofNat']
    omega
/-- one step of the look, by the number of the byte. -/
theorem arrS_at (x : ByteArray) (i : Nat) (hi : i + 1 < x.size) (d : Int) : arrS (x.data.toList.drop i) d = if chr x i = 40 ∨ chr x i = 91 then arrS (x.data.toList.drop (i + 1)) (d + 1) else if chr x i = 41 ∨ chr x i = 93 then arrS (x.data.toList.drop (i + 1)) (d - 1) else if chr x i = 45 ∧ d = 0 then true else arrS (x.data.toList.drop (i + 1)) d := by
  have hl : i < x.data.toList.length := by simp; exact (by omega : i < x.size)
  have hl2 : i + 1 < x.data.toList.length := by simp; exact (by omega : i + 1 < x.size)
  have h0 : Rs x i (x.data.toList[i] :: x.data.toList.drop (i + 1)) := by
    unfold Rs
    exact List.drop_eq_getElem_cons hl
  have hc := (Rs.cons h0).2.1
  rw [hc]
  have h1 := List.drop_eq_getElem_cons hl
  rw [h1, arrS, if_neg (by rw [List.drop_eq_getElem_cons hl2]; simp)]
  generalize x.data.toList[i] = c
  have e1 := u8_iff c 40 (by omega)
  have e2 := u8_iff c 91 (by omega)
  have e3 := u8_iff c 41 (by omega)
  have e4 := u8_iff c 93 (by omega)
  have e5 := u8_iff c 45 (by omega)
  simp only [show (UInt8.ofNat 40 : UInt8) = 40 from rfl, show (UInt8.ofNat 91 : UInt8) = 91 from rfl, show (UInt8.ofNat 41 : UInt8) = 41 from rfl, show (UInt8.ofNat 93 : UInt8) = 93 from rfl, show (UInt8.ofNat 45 : UInt8) = 45 from rfl] at e1 e2 e3 e4 e5
  simp only [e1, e2, e3, e4, e5]
  rfl
theorem arrS_end (x : ByteArray) (i : Nat) (hi : ¬ i + 1 < x.size) (d : Int) : arrS (x.data.toList.drop i) d = false := by
  have hl : (x.data.toList.drop i).length ≤ 1 := by
    simp
    have : x.data.size = x.size := rfl
    omega
  cases h : x.data.toList.drop i with
  | nil => rfl
  | cons c r =>
    rw [h] at hl
    simp at hl
    rw [arrS, if_pos (by simpa using hl)]
set_option maxRecDepth 20000 in
set_option maxHeartbeats 1000000 in
theorem arrow_any (x : ByteArray) (w : World) (hx : x.size ≤ 1000000) : Calls Tryz.prog 10 #[.string x] w fun e w' => e = .returned (.bool (arrS x.data.toList 0)) ∧ w' = w := by
  obtain ⟨R, hR⟩ : ∃ R, R = arrS x.data.toList 0 := ⟨_, rfl⟩
  rw [← hR]
  have HR : Hid _ := hR
  clear hR
  go_enter Tryz.func10, Tryz.ntmps10
  go_wp2
  go_loop [3, 4] (fun o v => ∃ (j : Nat) (d : Int), o = .int .i64 d ∧ v = .int .i64 j ∧ j ≤ x.size ∧ -(j : Int) ≤ d ∧ d ≤ j ∧ arrS (x.data.toList.drop j) d = R) (fun _ v => x.size - (intOf v).toNat)
  case atStart => exact ⟨0, 0, rfl, rfl, Nat.zero_le _, by omega, by omega, by rw [HR.out]; rfl⟩
  case round =>
    obtain ⟨j, d, rfl, rfl, hj, hd1, hd2, hr⟩ := hrel
    have HRR : Hid _ := hr
    clear hr
    by_cases hlt : j + 1 < x.size
    · have hlt' : j < x.size := by omega
      have hc := chr_eq x j hlt'
      have hs := arrS_at x j hlt d
      have HS : Hid _ := hs
      have hrange := chr_range x j
      clear hs
      generalize chr x j = c at *
      by_cases h1 : c = 40
      · subst h1
        have HN : Hid (arrS (x.data.toList.drop (j + 1)) (d + 1) = R) := by
          show _ = _
          rw [← HRR.out, HS.out]
          rw [if_pos (Or.inl rfl)]
        clear HS HRR
        go_wp2
        go_round
        case rel => exact ⟨j + 1, (d + 1), by go_num, by go_num, by omega, by omega, by omega, HN.out⟩
        case measure => simp [intOf]; omega
      by_cases h2 : c = 91
      · subst h2
        have HN : Hid (arrS (x.data.toList.drop (j + 1)) (d + 1) = R) := by
          show _ = _
          rw [← HRR.out, HS.out]
          rw [if_pos (Or.inr rfl)]
        clear HS HRR
        go_wp2
        go_round
        case rel => exact ⟨j + 1, (d + 1), by go_num, by go_num, by omega, by omega, by omega, HN.out⟩
        case measure => simp [intOf]; omega
      by_cases h3 : c = 41
      · subst h3
        have HN : Hid (arrS (x.data.toList.drop (j + 1)) (d - 1) = R) := by
          show _ = _
          rw [← HRR.out, HS.out]
          rw [if_neg (by omega), if_pos (Or.inl rfl)]
        clear HS HRR
        go_wp2
        go_round
        case rel => exact ⟨j + 1, (d - 1), by go_num, by go_num, by omega, by omega, by omega, HN.out⟩
        case measure => simp [intOf]; omega
      by_cases h4 : c = 93
      · subst h4
        have HN : Hid (arrS (x.data.toList.drop (j + 1)) (d - 1) = R) := by
          show _ = _
          rw [← HRR.out, HS.out]
          rw [if_neg (by omega), if_pos (Or.inr rfl)]
        clear HS HRR
        go_wp2
        go_round
        case rel => exact ⟨j + 1, (d - 1), by go_num, by go_num, by omega, by omega, by omega, HN.out⟩
        case measure => simp [intOf]; omega
      by_cases h5 : c = 45
      · subst h5
        by_cases h6 : d = 0
        · subst h6
          have HN : Hid (R = true) := by
            show _ = _
            rw [← HRR.out, HS.out, if_neg (by omega), if_neg (by omega), if_pos ⟨rfl, rfl⟩]
          clear HS HRR
          go_wp2
          go_ret
          exact ⟨by rw [HN.out]; rfl, rfl⟩
        · have HN : Hid (arrS (x.data.toList.drop (j + 1)) d = R) := by
            show _ = _
            rw [← HRR.out, HS.out, if_neg (by omega), if_neg (by omega), if_neg (by omega)]
          clear HS HRR
          go_wp2
          go_round
          case rel => exact ⟨j + 1, d, by go_num, by go_num, by omega, by omega, by omega, HN.out⟩
          case measure => simp [intOf]; omega
      · have HN : Hid (arrS (x.data.toList.drop (j + 1)) d = R) := by
          show _ = _
          rw [← HRR.out, HS.out, if_neg (by omega), if_neg (by omega), if_neg (by omega)]
        clear HS HRR
        go_wp2
        go_round
        case rel => exact ⟨j + 1, d, by go_num, by go_num, by omega, by omega, by omega, HN.out⟩
        case measure => simp [intOf]; omega
    · have HE : Hid (R = false) := by
        show _ = _
        rw [← HRR.out]
        exact arrS_end x j hlt d
      go_wp2
      go_ret
      exact ⟨by rw [HE.out]; rfl, rfl⟩
end Go.Proofs.YtleenphlgbklmabGreatDoor

namespace Go.Proofs.YtleenphlgbklmabGreatDoor
open Go.RowKit

def arrF : List UInt8 → Int → Bool
  | [], _ => false
  | c :: r, d => if c = 40 ∨ c = 91 then arrF r (d + 1) else if c = 41 ∨ c = 93 then arrF r (d - 1) else if c = 45 ∧ d = 0 then true else arrF r d
theorem arrS_F (c : UInt8) (hc : c ≠ 45) : ∀ (y : List UInt8) (d : Int), arrS (y ++ [c]) d = arrF (y ++ [c]) d
  | [], d => by simp [arrS, arrF, hc]
  | b :: y, d => by
    rw [List.cons_append, arrS, arrF, if_neg (by simp), arrS_F c hc y, arrS_F c hc y, arrS_F c hc y]
theorem lf_plain {c : UInt8} (h : lfI (c.toNat : Int) = true) : c ≠ 40 ∧ c ≠ 91 ∧ c ≠ 41 ∧ c ≠ 93 ∧ c ≠ 45 := by
  refine ⟨?_, ?_, ?_, ?_, ?_⟩ <;> (rintro rfl; revert h; decide)
theorem arrF_lf : ∀ (m : List UInt8) (r : List UInt8) (d : Int), (∀ c, c ∈ m → lfI (c.toNat : Int) = true) → arrF (m ++ r) d = arrF r d
  | [], r, d, _ => rfl
  | c :: m, r, d, h => by
    have hp := lf_plain (h c (by simp))
    rw [List.cons_append, arrF, if_neg (by simp [hp]), if_neg (by simp [hp]), if_neg (by simp [hp])]
    exact arrF_lf m r d (fun c hc => h c (by simp [hc]))
def isFn (t : Ty) : Bool := sameS t.kind { data := #[102, 117, 110] }
theorem arr_sh (own : List ByteArray) (ho : okN own) {t : Ty} (h : WT own.length t) : (∀ (r : List UInt8) (d : Int), 0 ≤ d → arrF (bsL (shT own t) ++ r) d = if d = 0 ∧ isFn t = true then true else arrF r d) ∧ ∃ y c, bsL (shT own t) = y ++ [c] ∧ c ≠ 45 := by
  have lst : ∀ m : ByteArray, (∀ c, c ∈ m.data.toList → lfI (c.toNat : Int) = true) → m.data.toList ≠ [] → ∃ y c, bsL m = y ++ [c] ∧ c ≠ 45 := fun m hm hn => by
    refine ⟨(bsL m).dropLast, (bsL m).getLast hn, (List.dropLast_concat_getLast hn).symm, ?_⟩
    exact (lf_plain (hm _ (List.getLast_mem hn))).2.2.2.2
  induction h with
  | var n hn =>
    have hm := ho.2 (own.getD n { data := #[] }) (by simp [List.getD, hn])
    rw [shT_var]
    refine ⟨fun r d hd => ?_, lst _ hm.lf ?_⟩
    · rw [if_neg (by rintro ⟨_, e⟩; revert e; exact (by decide : ¬ sameS ({ data := #[] } : ByteArray) { data := #[102, 117, 110] } = true))]
      exact arrF_lf _ r d hm.lf
    · obtain ⟨c, x, e, _⟩ := hm.nz
      rw [e]
      simp
  | int =>
    rw [shT_int]
    refine ⟨fun r d hd => ?_, lst _ (by decide) (by decide)⟩
    rw [if_neg (by rintro ⟨_, e⟩; revert e; decide)]
    exact arrF_lf _ r d (by decide)
  | bool =>
    rw [shT_bool]
    refine ⟨fun r d hd => ?_, lst _ (by decide) (by decide)⟩
    rw [if_neg (by rintro ⟨_, e⟩; revert e; decide)]
    exact arrF_lf _ r d (by decide)
  | list a _ ih =>
    have e : bsL (shT own (.mk { data := #[108, 105, 115, 116] } 0 [a])) = 91 :: (bsL (shT own a) ++ [93]) := by
      rw [shT_list, bsL_app, bsL_app]
      rfl
    rw [e]
    refine ⟨fun r d hd => ?_, ⟨91 :: bsL (shT own a), 93, rfl, by decide⟩⟩
    rw [if_neg (by rintro ⟨_, e⟩; revert e; exact (by decide : ¬ sameS ({ data := #[108, 105, 115, 116] } : ByteArray) { data := #[102, 117, 110] } = true))]
    rw [List.cons_append, arrF, if_pos (Or.inr rfl), List.append_assoc, ih.1 _ _ (by omega), if_neg (by omega)]
    rw [List.cons_append, arrF, if_neg (by decide), if_pos (Or.inr rfl), List.nil_append]
    congr 1
    omega
  | pair a b _ _ ih ih2 =>
    have e : bsL (shT own (.mk { data := #[112, 97, 105, 114] } 0 [a, b])) = 40 :: (bsL (shT own a) ++ 44 :: 32 :: (bsL (shT own b) ++ [41])) := by
      rw [shT_pair, bsL_app, bsL_app, bsL_app, bsL_app]
      simp [bsL]
    rw [e]
    refine ⟨fun r d hd => ?_, ⟨40 :: (bsL (shT own a) ++ 44 :: 32 :: bsL (shT own b)), 41, by simp, by decide⟩⟩
    rw [if_neg (by rintro ⟨_, e⟩; revert e; exact (by decide : ¬ sameS ({ data := #[112, 97, 105, 114] } : ByteArray) { data := #[102, 117, 110] } = true))]
    rw [List.cons_append, arrF, if_pos (Or.inl rfl), List.append_assoc, ih.1 _ _ (by omega), if_neg (by omega)]
    rw [List.cons_append, arrF, if_neg (by decide), if_neg (by decide), if_neg (by simp)]
    rw [List.cons_append, arrF, if_neg (by decide), if_neg (by decide), if_neg (by simp)]
    rw [List.append_assoc, ih2.1 _ _ (by omega), if_neg (by omega)]
    rw [List.cons_append, arrF, if_neg (by decide), if_pos (Or.inl rfl), List.nil_append]
    congr 1
    omega
  | fn a b _ _ ih ih2 =>
    have hk : isFn (.mk { data := #[102, 117, 110] } 0 [a, b]) = true := (by decide : sameS ({ data := #[102, 117, 110] } : ByteArray) { data := #[102, 117, 110] } = true)
    have arw : ∀ (r : List UInt8) (d : Int), 0 ≤ d → arrF (32 :: 45 :: 62 :: 32 :: (bsL (shT own b) ++ r)) d = if d = 0 then true else arrF r d := fun r d hd => by
      rw [arrF, if_neg (by decide), if_neg (by decide), if_neg (by simp)]
      rw [arrF, if_neg (by decide), if_neg (by decide)]
      by_cases h0 : d = 0
      · rw [if_pos ⟨rfl, h0⟩, if_pos h0]
      · rw [if_neg (by simp [h0]), if_neg h0]
        rw [arrF, if_neg (by decide), if_neg (by decide), if_neg (by simp)]
        rw [arrF, if_neg (by decide), if_neg (by decide), if_neg (by simp)]
        rw [ih2.1 _ _ hd, if_neg (by simp [h0])]
    have hlast : ∃ y c, bsL (shT own b) = y ++ [c] ∧ c ≠ 45 := ih2.2
    cases hf : (a.kind.data.toList == ({ data := #[102, 117, 110] } : ByteArray).data.toList) with
    | false =>
      have e : bsL (shT own (.mk { data := #[102, 117, 110] } 0 [a, b])) = bsL (shT own a) ++ 32 :: 45 :: 62 :: 32 :: bsL (shT own b) := by
        rw [shT_fn, bsL_app, bsL_app, hf]
        simp [bsL, brkT]
      rw [e, hk]
      refine ⟨fun r d hd => ?_, ?_⟩
      · have hna : isFn a = false := hf
        rw [List.append_assoc, ih.1 _ _ hd, hna, if_neg (by simp)]
        simp only [List.cons_append, and_true]
        exact arw r d hd
      · obtain ⟨y, c, e1, e2⟩ := hlast
        exact ⟨bsL (shT own a) ++ 32 :: 45 :: 62 :: 32 :: y, c, by rw [e1]; simp, e2⟩
    | true =>
      have e : bsL (shT own (.mk { data := #[102, 117, 110] } 0 [a, b])) = 40 :: (bsL (shT own a) ++ 41 :: 32 :: 45 :: 62 :: 32 :: bsL (shT own b)) := by
        rw [shT_fn, bsL_app, bsL_app, hf]
        simp [bsL, brkT]
      rw [e, hk]
      refine ⟨fun r d hd => ?_, ?_⟩
      · rw [List.cons_append, arrF, if_pos (Or.inl rfl), List.append_assoc, ih.1 _ _ (by omega), if_neg (by omega)]
        rw [List.cons_append, arrF, if_neg (by decide), if_pos (Or.inl rfl)]
        simp only [List.cons_append, and_true]
        rw [show d + 1 - 1 = d from by omega]
        exact arw r d hd
      · obtain ⟨y, c, e1, e2⟩ := hlast
        exact ⟨40 :: (bsL (shT own a) ++ 41 :: 32 :: 45 :: 62 :: 32 :: y), c, by rw [e1]; simp, e2⟩
theorem arr_can {t : Ty} {k : Nat} (h : FO t 0 k) (hk : k ≤ 260) : arrS (canT t).data.toList 0 = isFn t := by
  rw [canT_lets h]
  obtain ⟨h1, y, c, e, hc⟩ := arr_sh (lets k) (lets_ok hk) (t := t) (by rw [lets_len]; exact h.wt)
  have h2 := h1 [] 0 (by omega)
  rw [List.append_nil] at h2
  have e' : (shT (lets k) t).data.toList = y ++ [c] := e
  rw [e', arrS_F c hc, ← e, h2]
  cases isFn t <;> simp [arrF]
end Go.Proofs.YtleenphlgbklmabGreatDoor

namespace Go.Proofs.YtleenphlgbklmabGreatDoor
open Go.RowKit

def sQQ : ByteArray := ⟨#[113, 32, 45, 62, 32, 113]⟩
def sAA : ByteArray := ⟨#[97, 32, 45, 62, 32, 97]⟩
def sPQ : ByteArray := ⟨#[112, 32, 45, 62, 32, 40, 113, 44, 32, 91, 112, 93, 41]⟩
def pieceP : ByteArray := ⟨#[112]⟩
def pieceQ : ByteArray := ⟨#[113]⟩
/-- what is known of Canon and Instance. -/
structure RnH (w : World) (cn : ByteArray → ByteArray) (fw fl : ByteArray → Int) (nl : ByteArray → ByteArray → Nat) (nn : ByteArray → ByteArray → Bool) (iw il : ByteArray → ByteArray → Int) (RI : ByteArray → ByteArray → Option Addr → Option Addr → World → Prop) : Prop where
  c : ∀ s W, s.size ≤ 9223372036854775807 → Kept w W → Calls Tryz.prog 8 #[.string s] W fun e w' => e = .returned (.tuple #[.string (cn s), faultVal (fw s) (fl s) { data := #[] }]) ∧ Kept W w'
  i : ∀ s z W, s.size ≤ 9223372036854775807 → z.size ≤ 9223372036854775807 → Kept w W → Calls Tryz.prog 9 #[.string s, .string z] W fun e w' => ∃ la lc ta tc, e = .returned (.tuple #[.slice la (nl s z) lc, .slice ta (nl s z) tc, .bool (nn s z), faultVal (iw s z) (il s z) { data := #[] }]) ∧ Kept W w' ∧ Hid (RI s z la ta w')
/-- a struct of five cells, stored. -/
def st5 (W : World) (B : Nat) (v0 v1 v2 v3 v4 : Value) : World := ((((W.setCell ⟨B, 0, none⟩ v0).setCell ⟨B, 1, none⟩ v1).setCell ⟨B, 2, none⟩ v2).setCell ⟨B, 3, none⟩ v3).setCell ⟨B, 4, none⟩ v4
theorem st5_oth (W : World) (B : Nat) (v0 v1 v2 v3 v4 : Value) (q : Nat) (hq : q ≠ B) : (st5 W B v0 v1 v2 v3 v4).heap[q]? = W.heap[q]? := by
  have e : ∀ (W : World) (j : Nat) (v : Value), (W.setCell ⟨B, j, none⟩ v).heap[q]? = W.heap[q]? := fun W j v => Below.heap_setCell _ _ _ q (by intro z; exact hq z)
  exact (e _ _ _).trans ((e _ _ _).trans ((e _ _ _).trans ((e _ _ _).trans (e _ _ _))))
theorem st5_blk (W : World) (B : Nat) (u0 u1 u2 u3 u4 v0 v1 v2 v3 v4 : Value) (T : TypeId) (h : W.heap[B]? = some (.cells #[u0, u1, u2, u3, u4] T (0, 0))) : (st5 W B v0 v1 v2 v3 v4).heap[B]? = some (.cells #[v0, v1, v2, v3, v4] T (0, 0)) := by
  unfold st5
  simp [World.setCell, h, Array.getElem?_modify]
theorem kept_set1 {w W : World} {B j : Nat} {v : Value} (h : Kept w W) (hB : w.heap.size ≤ B) : Kept w (W.setCell ⟨B, j, none⟩ v) :=
  ⟨h.1, h.2, by simpa using h.3, fun q hq => (Below.heap_setCell _ _ _ q (by intro z; have z : q = B := z; omega)).trans (h.4 q hq)⟩
theorem st5_kept {w W : World} {B : Nat} {v0 v1 v2 v3 v4 : Value} (h : Kept w W) (hB : w.heap.size ≤ B) : Kept w (st5 W B v0 v1 v2 v3 v4) :=
  kept_set1 (kept_set1 (kept_set1 (kept_set1 (kept_set1 h hB) hB) hB) hB) hB
theorem st5_size (W : World) (B : Nat) (v0 v1 v2 v3 v4 : Value) : (st5 W B v0 v1 v2 v3 v4).heap.size = W.heap.size := by unfold st5; simp
def fB (W : World) (B : Nat) (a b : Int) : Prop := W.heap[B]? = some (.cells #[.int .i64 a, .int .i64 b, .string { data := #[] }, .int .i64 0, .int .i64 0] 23 (0, 0))
theorem fB.kept {W W' : World} {B : Nat} {a b : Int} (h : fB W B a b) (hk : Kept W W') : fB W' B a b := hk.blk h
theorem fB.cells {W : World} {B : Nat} {a b : Int} (h : fB W B a b) : W.cell? ⟨B, 0, none⟩ = some (.int .i64 a) ∧ W.cell? ⟨B, 1, none⟩ = some (.int .i64 b) ∧ W.cell? ⟨B, 2, none⟩ = some (.string { data := #[] }) ∧ W.cell? ⟨B, 3, none⟩ = some (.int .i64 0) ∧ W.cell? ⟨B, 4, none⟩ = some (.int .i64 0) ∧ ∀ j, W.frozen? ⟨B, j, none⟩ = false := by
  unfold fB at h
  refine ⟨?_, ?_, ?_, ?_, ?_, fun j => ?_⟩ <;> simp [World.cell?, World.frozen?, h]
def fObj (a b : Int) : Obj := .cells #[.int .i64 a, .int .i64 b, .string { data := #[] }, .int .i64 0, .int .i64 0] 23
theorem fB.new (W : World) (a b : Int) : fB (W.alloc (fObj a b)) W.heap.size a b := heap_alloc_new _ _
theorem fB.lt {W : World} {B : Nat} {a b : Int} (h : fB W B a b) : B < W.heap.size := lt_of_block h
section
variable {w : World} {cn : ByteArray → ByteArray} {fw fl : ByteArray → Int} {nl : ByteArray → ByteArray → Nat} {nn : ByteArray → ByteArray → Bool} {iw il : ByteArray → ByteArray → Int} {RI : ByteArray → ByteArray → Option Addr → Option Addr → World → Prop}
set_option maxRecDepth 20000 in
set_option maxHeartbeats 4000000 in
theorem renamed_walk (typ a b : ByteArray) (h1 : typ.size ≤ 9223372036854775807) (h2 : a.size ≤ 9223372036854775807) (h3 : b.size ≤ 9223372036854775807) (HH : Hid (RnH w cn fw fl nl nn iw il RI)) (HS : Hid (∀ s, (cn s).size ≤ 100000)) (hq : fw sQQ = 0 ∧ cn sQQ = sAA) (F1 : Hid (fw typ ≠ 0 → cn typ = { data := #[] }))
    (F2 : Hid (fw typ = 0 → (cn typ).size ≤ 300 → fw (cn typ) = 0 ∧ cn (cn typ) = cn typ ∧ iw typ (cn typ) = 0 ∧ iw (cn typ) typ = 0 ∧ nl typ (cn typ) = nl (cn typ) typ))
    (F3 : Hid (fw a = 0 → fw b = 0 → ∀ lft, lft = (if arrS (cn a).data.toList 0 then ⟨#[40]⟩ ++ cn a ++ ⟨#[41]⟩ else cn a) → iw sPQ (((((lft ++ ⟨#[32, 45, 62, 32, 40]⟩) ++ cn b) ++ ⟨#[44, 32, 91]⟩) ++ cn a) ++ ⟨#[93, 41]⟩) = 1 ∨ iw sPQ (((((lft ++ ⟨#[32, 45, 62, 32, 40]⟩) ++ cn b) ++ ⟨#[44, 32, 91]⟩) ++ cn a) ++ ⟨#[93, 41]⟩) = 8 ∨ (nn sPQ (((((lft ++ ⟨#[32, 45, 62, 32, 40]⟩) ++ cn b) ++ ⟨#[44, 32, 91]⟩) ++ cn a) ++ ⟨#[93, 41]⟩) = false ∧ iw sPQ (((((lft ++ ⟨#[32, 45, 62, 32, 40]⟩) ++ cn b) ++ ⟨#[44, 32, 91]⟩) ++ cn a) ++ ⟨#[93, 41]⟩) = 0 ∧ nl sPQ (((((lft ++ ⟨#[32, 45, 62, 32, 40]⟩) ++ cn b) ++ ⟨#[44, 32, 91]⟩) ++ cn a) ++ ⟨#[93, 41]⟩) = 2 ∧ ∀ la ta w', RI sPQ (((((lft ++ ⟨#[32, 45, 62, 32, 40]⟩) ++ cn b) ++ ⟨#[44, 32, 91]⟩) ++ cn a) ++ ⟨#[93, 41]⟩) la ta w' → ∃ g g', la = some ⟨g, 0, none⟩ ∧ ta = some ⟨g', 0, none⟩ ∧ w'.cell? ⟨g, 0, none⟩ = some (.string ⟨#[112]⟩) ∧ w'.cell? ⟨g, 1, none⟩ = some (.string ⟨#[113]⟩) ∧ w'.cell? ⟨g', 0, none⟩ = some (.string (cn a)) ∧ w'.cell? ⟨g', 1, none⟩ = some (.string (cn b))))) :
    Calls Tryz.prog 3 #[.string typ, .string a, .string b] w fun e w' => e = .returned (.bool true) ∧ Kept w w' := by
  have HC0 : Hid _ := HH.out.c sQQ w (by decide) (Kept.refl _)
  rw [hq.1, hq.2] at HC0
  have HC1 : Hid (∀ W, Kept w W → Calls Tryz.prog 8 #[.string typ] W fun e w' => e = .returned (.tuple #[.string (cn typ), faultVal (fw typ) (fl typ) { data := #[] }]) ∧ Kept W w') := fun W hk => HH.out.c typ W h1 hk
  have HC2 : Hid (∀ W, Kept w W → Calls Tryz.prog 8 #[.string (cn typ)] W fun e w' => e = .returned (.tuple #[.string (cn (cn typ)), faultVal (fw (cn typ)) (fl (cn typ)) { data := #[] }]) ∧ Kept W w') := fun W hk => HH.out.c (cn typ) W (by have := HS.out typ; omega) hk
  have HI1 : Hid (∀ W, Kept w W → Calls Tryz.prog 9 #[.string typ, .string (cn typ)] W fun e w' => ∃ la lc ta tc, e = .returned (.tuple #[.slice la (nl typ (cn typ)) lc, .slice ta (nl typ (cn typ)) tc, .bool (nn typ (cn typ)), faultVal (iw typ (cn typ)) (il typ (cn typ)) { data := #[] }]) ∧ Kept W w' ∧ Hid (RI typ (cn typ) la ta w')) := fun W hk => HH.out.i typ (cn typ) W h1 (by have := HS.out typ; omega) hk
  have HI2 : Hid (∀ W, Kept w W → Calls Tryz.prog 9 #[.string (cn typ), .string typ] W fun e w' => ∃ la lc ta tc, e = .returned (.tuple #[.slice la (nl (cn typ) typ) lc, .slice ta (nl (cn typ) typ) tc, .bool (nn (cn typ) typ), faultVal (iw (cn typ) typ) (il (cn typ) typ) { data := #[] }]) ∧ Kept W w' ∧ Hid (RI (cn typ) typ la ta w')) := fun W hk => HH.out.i (cn typ) typ W (by have := HS.out typ; omega) h1 hk
  have HA1 : Hid (∀ W, Kept w W → Calls Tryz.prog 8 #[.string a] W fun e w' => e = .returned (.tuple #[.string (cn a), faultVal (fw a) (fl a) { data := #[] }]) ∧ Kept W w') := fun W hk => HH.out.c a W h2 hk
  have HB1 : Hid (∀ W, Kept w W → Calls Tryz.prog 8 #[.string b] W fun e w' => e = .returned (.tuple #[.string (cn b), faultVal (fw b) (fl b) { data := #[] }]) ∧ Kept W w') := fun W hk => HH.out.c b W h3 hk
  have HIL : Hid (∀ T W, T.size ≤ 1000000 → Kept w W → Calls Tryz.prog 9 #[.string sPQ, .string T] W fun e w' => ∃ la lc ta tc, e = .returned (.tuple #[.slice la (nl sPQ T) lc, .slice ta (nl sPQ T) tc, .bool (nn sPQ T), faultVal (iw sPQ T) (il sPQ T) { data := #[] }]) ∧ Kept W w' ∧ Hid (RI sPQ T la ta w')) := fun T W hT hk => HH.out.i sPQ T W (by decide) (by omega) hk
  have hxs := HS.out a
  have hys := HS.out b
  have hcs := HS.out typ
  clear hq h1 h2 h3 HS HH
  generalize hc : cn typ = c at *
  clear hc
  generalize fw typ = f1 at *
  generalize fl typ = l1 at *
  generalize cn a = x at *
  generalize cn b = y at *
  generalize fw a = fa at *
  generalize fw b = fb at *
  generalize fl a = la0 at *
  generalize fl b = lb0 at *
  unfold sQQ sAA at HC0
  go_enter Tryz.func3, Tryz.ntmps3
  go_wp2_with fail
  refine Calls.mono HC0.out ?_
  rintro e w1 ⟨rfl, hk1⟩
  unfold faultVal
  clear HC0
  go_wp2_with fail
  have hk2 := hk1.trans (Kept.alloc w1 (fObj 0 (fl ⟨#[113, 32, 45, 62, 32, 113]⟩)))
  unfold fObj at hk2
  generalize w1.alloc (.cells #[.int .i64 0, .int .i64 (fl ⟨#[113, 32, 45, 62, 32, 113]⟩), .string { data := #[] }, .int .i64 0, .int .i64 0] 23) = w2 at *
  refine Calls.mono (HC1.out w2 hk2) ?_
  rintro e w3 ⟨rfl, hk3⟩
  unfold faultVal
  have hK3 := hk2.trans hk3
  clear HC1 hk1 hk2 hk3
  by_cases hf : f1 = 0
  · have G2 : Hid (c.size ≤ 300 → fw c = 0 ∧ cn c = c ∧ iw typ c = 0 ∧ iw c typ = 0 ∧ nl typ c = nl c typ) := F2.out hf
    subst hf
    clear F1 F2
    go_wp2_with fail
    have hf4 := fB.new w3 0 l1
    have hK4 := hK3.trans (Kept.alloc w3 (fObj 0 l1))
    unfold fObj at hf4 hK4
    generalize hw4 : w3.alloc (.cells #[.int .i64 0, .int .i64 l1, .string { data := #[] }, .int .i64 0, .int .i64 0] 23) = w4 at *
    refine Calls.mono (HC2.out w4 hK4) ?_
    rintro e w5 ⟨rfl, hk5⟩
    unfold faultVal
    have hK5 := hK4.trans hk5
    have hf5 := hf4.kept hk5
    obtain ⟨c0, c1, c2, c3, c4, fz⟩ := hf5.cells
    have hl3 := hK3.size
    clear hw4 HC2 hk5 hK4 hf4
    go_wp2_with fail
    obtain ⟨w6, hw6⟩ : ∃ w6, w6 = st5 w5 w3.heap.size (.int .i64 (fw c)) (.int .i64 (fl c)) (.string { data := #[] }) (.int .i64 0) (.int .i64 0) := ⟨_, rfl⟩
    have hf6 : fB w6 w3.heap.size (fw c) (fl c) := by rw [hw6]; exact st5_blk _ _ _ _ _ _ _ _ _ _ _ _ _ hf5
    have hK6 : Kept w w6 := by rw [hw6]; exact st5_kept hK5 hl3
    unfold st5 at hw6
    rw [← hw6]
    clear hw6 c0 c1 c2 c3 c4 fz hK5 hf5
    refine Calls.mono (HI1.out w6 hK6) ?_
    rintro e w7 ⟨la, lc, ta, tc, rfl, hk7, hRI⟩
    unfold faultVal
    clear hRI HI1
    go_wp2_with fail
    have hg8 := fB.new w7 (iw typ c) (il typ c)
    have hK7 := hK6.trans hk7
    have hk8 := (Kept.alloc w7 (fObj (iw typ c) (il typ c)))
    have hf7 := hf6.kept hk7
    have hK8 := hK7.trans hk8
    have hf8 := hf7.kept hk8
    have hl7 := hK7.size
    have hd37 := hf7.lt
    unfold fObj at hg8 hf8 hK8
    generalize hw8 : w7.alloc (.cells #[.int .i64 (iw typ c), .int .i64 (il typ c), .string { data := #[] }, .int .i64 0, .int .i64 0] 23) = w8 at *
    refine Calls.mono (HI2.out w8 hK8) ?_
    rintro e w9 ⟨la2, lc2, ta2, tc2, rfl, hk9, hRI⟩
    unfold faultVal
    clear hRI HI2 hw8 hk7 hf6 hK6 hf7 hk8
    have hK9 := hK8.trans hk9
    have hf9 := hf8.kept hk9
    have hg9 := hg8.kept hk9
    have hkx := Kept.alloc w9 (fObj (iw c typ) (il c typ))
    have hK10 := hK9.trans hkx
    have hf10 := hf9.kept hkx
    have hg10 := hg9.kept hkx
    have hh10 := fB.new w9 (iw c typ) (il c typ)
    have hl9 := hK9.size
    have hd79 := hg9.lt
    unfold fObj at hK10 hf10 hg10 hh10
    clear hk9 hf8 hg8 hK8 hf9 hg9 hkx
    by_cases hlc : c.size ≤ 300
    · obtain ⟨e1, e2, e3, e4, e5⟩ := G2.out hlc
      rw [e1] at hf10
      rw [e3] at hg10
      rw [e4] at hh10
      clear G2
      rw [e1, e2, e3, e4, e5]
      rw [e4] at hK10 hf10 hg10
      clear e1 e2 e3 e4 e5
      obtain ⟨f0, -⟩ := hf10.cells
      obtain ⟨g0, -⟩ := hg10.cells
      obtain ⟨h0, -⟩ := hh10.cells
      have hsame : (c.toList == c.toList) = true := by simp
      go_wp2_with fail
      clear f0 g0 h0 hsame
      generalize hw10 : w9.alloc (.cells #[.int .i64 0, .int .i64 (il c typ), .string { data := #[] }, .int .i64 0, .int .i64 0] 23) = w10 at *
      refine Calls.mono (HA1.out w10 hK10) ?_
      rintro e w11 ⟨rfl, hk11⟩
      unfold faultVal
      have hK11 := hK10.trans hk11
      have hf11 := hf10.kept hk11
      have hg11 := hg10.kept hk11
      have hh11 := hh10.kept hk11
      obtain ⟨c0, c1, c2, c3, c4, fz⟩ := hg11.cells
      clear hw10 HA1 hk11 hK10 hf10 hg10 hh10
      go_wp2_with fail
      obtain ⟨w12, hw12⟩ : ∃ w12, w12 = st5 w11 w7.heap.size (.int .i64 fa) (.int .i64 la0) (.string { data := #[] }) (.int .i64 0) (.int .i64 0) := ⟨_, rfl⟩
      have hg12 : fB w12 w7.heap.size fa la0 := by rw [hw12]; exact st5_blk _ _ _ _ _ _ _ _ _ _ _ _ _ hg11
      have hf12 : fB w12 w3.heap.size 0 (fl c) := by rw [hw12]; exact (st5_oth _ _ _ _ _ _ _ _ (by omega)).trans hf11
      have hh12 : fB w12 w9.heap.size 0 (il c typ) := by rw [hw12]; exact (st5_oth _ _ _ _ _ _ _ _ (by omega)).trans hh11
      have hK12 : Kept w w12 := by rw [hw12]; exact st5_kept hK11 (by omega)
      unfold st5 at hw12
      rw [← hw12]
      clear hw12 c0 c1 c2 c3 c4 fz hK11 hf11 hg11 hh11
      refine Calls.mono (HB1.out w12 hK12) ?_
      rintro e w13 ⟨rfl, hk13⟩
      unfold faultVal
      have hK13 := hK12.trans hk13
      have hf13 := hf12.kept hk13
      have hg13 := hg12.kept hk13
      have hh13 := hh12.kept hk13
      obtain ⟨c0, c1, c2, c3, c4, fz⟩ := hh13.cells
      obtain ⟨w14, hw14⟩ : ∃ w14, w14 = st5 w13 w9.heap.size (.int .i64 fb) (.int .i64 lb0) (.string { data := #[] }) (.int .i64 0) (.int .i64 0) := ⟨_, rfl⟩
      have hh14 : fB w14 w9.heap.size fb lb0 := by rw [hw14]; exact st5_blk _ _ _ _ _ _ _ _ _ _ _ _ _ hh13
      have hf14 : fB w14 w3.heap.size 0 (fl c) := by rw [hw14]; exact (st5_oth _ _ _ _ _ _ _ _ (by omega)).trans hf13
      have hg14 : fB w14 w7.heap.size fa la0 := by rw [hw14]; exact (st5_oth _ _ _ _ _ _ _ _ (by omega)).trans hg13
      have hK14 : Kept w w14 := by rw [hw14]; exact st5_kept hK13 (by omega)
      clear HB1 hk13 hK12 hf12 hg12 hh12 hK13
      have k0 := hg14.cells.1
      have k1 := hh14.cells.1
      have hKn := hK14
      rw [hw14] at k0 k1 hKn
      unfold st5 at k0 k1 hKn hw14
      by_cases hfa : fa = 0
      · by_cases hfb : fb = 0
        · have G3 : Hid (∀ lft, lft = (if arrS x.data.toList 0 then ⟨#[40]⟩ ++ x ++ ⟨#[41]⟩ else x) → iw sPQ (((((lft ++ ⟨#[32, 45, 62, 32, 40]⟩) ++ y) ++ ⟨#[44, 32, 91]⟩) ++ x) ++ ⟨#[93, 41]⟩) = 1 ∨ iw sPQ (((((lft ++ ⟨#[32, 45, 62, 32, 40]⟩) ++ y) ++ ⟨#[44, 32, 91]⟩) ++ x) ++ ⟨#[93, 41]⟩) = 8 ∨ (nn sPQ (((((lft ++ ⟨#[32, 45, 62, 32, 40]⟩) ++ y) ++ ⟨#[44, 32, 91]⟩) ++ x) ++ ⟨#[93, 41]⟩) = false ∧ iw sPQ (((((lft ++ ⟨#[32, 45, 62, 32, 40]⟩) ++ y) ++ ⟨#[44, 32, 91]⟩) ++ x) ++ ⟨#[93, 41]⟩) = 0 ∧ nl sPQ (((((lft ++ ⟨#[32, 45, 62, 32, 40]⟩) ++ y) ++ ⟨#[44, 32, 91]⟩) ++ x) ++ ⟨#[93, 41]⟩) = 2 ∧ ∀ la ta w', RI sPQ (((((lft ++ ⟨#[32, 45, 62, 32, 40]⟩) ++ y) ++ ⟨#[44, 32, 91]⟩) ++ x) ++ ⟨#[93, 41]⟩) la ta w' → ∃ g g', la = some ⟨g, 0, none⟩ ∧ ta = some ⟨g', 0, none⟩ ∧ w'.cell? ⟨g, 0, none⟩ = some (.string ⟨#[112]⟩) ∧ w'.cell? ⟨g, 1, none⟩ = some (.string ⟨#[113]⟩) ∧ w'.cell? ⟨g', 0, none⟩ = some (.string x) ∧ w'.cell? ⟨g', 1, none⟩ = some (.string y))) := F3.out hfa hfb
          subst hfa
          subst hfb
          clear F3
          go_wp2_with fail
          rw [← hw14]
          clear hw14 c0 c1 c2 c3 c4 fz k0 k1 hKn hf13 hg13 hh13 hg14 hh14
          refine Calls.mono (arrow_any x w14 (by omega)) ?_
          rintro e w15 ⟨rfl, hw15⟩
          rw [hw15]
          clear hw15 w15
          cases ha : arrS x.data.toList 0
          · rw [ha] at G3
            have G4 : Hid _ := G3.out x rfl
            clear G3 ha
            go_wp2_with fail
            have hTs : (x ++ ⟨#[32, 45, 62, 32, 40]⟩ ++ y ++ ⟨#[44, 32, 91]⟩ ++ x ++ ⟨#[93, 41]⟩).size ≤ 1000000 := by
              simp only [ByteArray.size_append, show (⟨#[32, 45, 62, 32, 40]⟩ : ByteArray).size = 5 from rfl, show (⟨#[44, 32, 91]⟩ : ByteArray).size = 3 from rfl, show (⟨#[93, 41]⟩ : ByteArray).size = 2 from rfl, show (⟨#[40]⟩ : ByteArray).size = 1 from rfl, show (⟨#[41]⟩ : ByteArray).size = 1 from rfl]
              omega
            refine Calls.mono (HIL.out _ w14 hTs hK14) ?_
            clear HIL hTs
            generalize x ++ ⟨#[32, 45, 62, 32, 40]⟩ ++ y ++ ⟨#[44, 32, 91]⟩ ++ x ++ ⟨#[93, 41]⟩ = T at *
            rintro e w16 ⟨la3, lc3, ta3, tc3, rfl, hk16, hRI⟩
            unfold faultVal
            have hK16 := hK14.trans hk16
            have hf16 := hf14.kept hk16
            clear hk16 hK14 hf14
            obtain ⟨c0, c1, c2, c3, c4, fz⟩ := hf16.cells
            have c0' := c0
            obtain ⟨w17, hw17⟩ : ∃ w17, w17 = st5 w16 w3.heap.size (.int .i64 (iw sPQ T)) (.int .i64 (il sPQ T)) (.string { data := #[] }) (.int .i64 0) (.int .i64 0) := ⟨_, rfl⟩
            have hf17 : fB w17 w3.heap.size (iw sPQ T) (il sPQ T) := by rw [hw17]; exact st5_blk _ _ _ _ _ _ _ _ _ _ _ _ _ hf16
            have hK17 : Kept w w17 := by rw [hw17]; exact st5_kept hK16 hl3
            have k0 := hf17.cells.1
            have HOT : Hid (∀ q, q ≠ w3.heap.size → w17.heap[q]? = w16.heap[q]?) := fun q hq => by rw [hw17]; exact st5_oth _ _ _ _ _ _ _ q hq
            have HCL : Hid (∀ (q j : Nat) (v : ByteArray), w16.cell? ⟨q, j, none⟩ = some (.string v) → q ≠ w3.heap.size → w17.cell? ⟨q, j, none⟩ = some (.string v)) := fun q j v hv hq => by
              have := HOT.out q hq
              simp only [World.cell?] at hv ⊢
              rw [this]
              exact hv
            rw [hw17] at k0 hK17
            unfold st5 at k0 hK17 hw17
            rcases G4.out with e1 | e1 | ⟨e1, e2, e3, e4⟩
            · rw [e1] at k0 hK17 hw17
              rw [e1]
              clear G4 e1 HOT HCL hf17 hf16 hK16
              go_wp2_with fail
              go_ret
              exact ⟨rfl, hK17⟩
            · rw [e1] at k0 hK17 hw17
              rw [e1]
              clear G4 e1 HOT HCL hf17 hf16 hK16
              go_wp2_with fail
              go_ret
              exact ⟨rfl, hK17⟩
            · obtain ⟨g, g', rfl, rfl, d0, d1, d2, d3⟩ := e4 _ _ _ hRI.out
              have n1 : g ≠ w3.heap.size := by
                rintro rfl
                rw [c0'] at d0
                cases d0
              have n2 : g' ≠ w3.heap.size := by
                rintro rfl
                rw [c0'] at d2
                cases d2
              have d0 := HCL.out _ _ _ d0 n1
              have d1 := HCL.out _ _ _ d1 n1
              have d2 := HCL.out _ _ _ d2 n2
              have d3 := HCL.out _ _ _ d3 n2
              rw [hw17] at d0 d1 d2 d3
              rw [e2] at k0 hK17 hw17 d0 d1 d2 d3
              rw [e1, e2, e3]
              have s1 : (x.toList == x.toList) = true := by simp
              have s2 : (y.toList == y.toList) = true := by simp
              clear G4 e1 e2 e3 e4 HOT HCL hf17 hf16 hK16 hRI hw17 n1 n2 c0'
              go_wp2_with fail
              go_ret
              exact ⟨rfl, hK17⟩
          · rw [ha] at G3
            have G4 : Hid _ := G3.out (⟨#[40]⟩ ++ x ++ ⟨#[41]⟩) rfl
            clear G3 ha
            go_wp2_with fail
            have hTs : ((⟨#[40]⟩ : ByteArray) ++ x ++ ⟨#[41]⟩ ++ ⟨#[32, 45, 62, 32, 40]⟩ ++ y ++ ⟨#[44, 32, 91]⟩ ++ x ++ ⟨#[93, 41]⟩).size ≤ 1000000 := by
              simp only [ByteArray.size_append, show (⟨#[32, 45, 62, 32, 40]⟩ : ByteArray).size = 5 from rfl, show (⟨#[44, 32, 91]⟩ : ByteArray).size = 3 from rfl, show (⟨#[93, 41]⟩ : ByteArray).size = 2 from rfl, show (⟨#[40]⟩ : ByteArray).size = 1 from rfl, show (⟨#[41]⟩ : ByteArray).size = 1 from rfl]
              omega
            refine Calls.mono (HIL.out _ w14 hTs hK14) ?_
            clear HIL hTs
            generalize (⟨#[40]⟩ : ByteArray) ++ x ++ ⟨#[41]⟩ ++ ⟨#[32, 45, 62, 32, 40]⟩ ++ y ++ ⟨#[44, 32, 91]⟩ ++ x ++ ⟨#[93, 41]⟩ = T at *
            rintro e w16 ⟨la3, lc3, ta3, tc3, rfl, hk16, hRI⟩
            unfold faultVal
            have hK16 := hK14.trans hk16
            have hf16 := hf14.kept hk16
            clear hk16 hK14 hf14
            obtain ⟨c0, c1, c2, c3, c4, fz⟩ := hf16.cells
            have c0' := c0
            obtain ⟨w17, hw17⟩ : ∃ w17, w17 = st5 w16 w3.heap.size (.int .i64 (iw sPQ T)) (.int .i64 (il sPQ T)) (.string { data := #[] }) (.int .i64 0) (.int .i64 0) := ⟨_, rfl⟩
            have hf17 : fB w17 w3.heap.size (iw sPQ T) (il sPQ T) := by rw [hw17]; exact st5_blk _ _ _ _ _ _ _ _ _ _ _ _ _ hf16
            have hK17 : Kept w w17 := by rw [hw17]; exact st5_kept hK16 hl3
            have k0 := hf17.cells.1
            have HOT : Hid (∀ q, q ≠ w3.heap.size → w17.heap[q]? = w16.heap[q]?) := fun q hq => by rw [hw17]; exact st5_oth _ _ _ _ _ _ _ q hq
            have HCL : Hid (∀ (q j : Nat) (v : ByteArray), w16.cell? ⟨q, j, none⟩ = some (.string v) → q ≠ w3.heap.size → w17.cell? ⟨q, j, none⟩ = some (.string v)) := fun q j v hv hq => by
              have := HOT.out q hq
              simp only [World.cell?] at hv ⊢
              rw [this]
              exact hv
            rw [hw17] at k0 hK17
            unfold st5 at k0 hK17 hw17
            rcases G4.out with e1 | e1 | ⟨e1, e2, e3, e4⟩
            · rw [e1] at k0 hK17 hw17
              rw [e1]
              clear G4 e1 HOT HCL hf17 hf16 hK16
              go_wp2_with fail
              go_ret
              exact ⟨rfl, hK17⟩
            · rw [e1] at k0 hK17 hw17
              rw [e1]
              clear G4 e1 HOT HCL hf17 hf16 hK16
              go_wp2_with fail
              go_ret
              exact ⟨rfl, hK17⟩
            · obtain ⟨g, g', rfl, rfl, d0, d1, d2, d3⟩ := e4 _ _ _ hRI.out
              have n1 : g ≠ w3.heap.size := by
                rintro rfl
                rw [c0'] at d0
                cases d0
              have n2 : g' ≠ w3.heap.size := by
                rintro rfl
                rw [c0'] at d2
                cases d2
              have d0 := HCL.out _ _ _ d0 n1
              have d1 := HCL.out _ _ _ d1 n1
              have d2 := HCL.out _ _ _ d2 n2
              have d3 := HCL.out _ _ _ d3 n2
              rw [hw17] at d0 d1 d2 d3
              rw [e2] at k0 hK17 hw17 d0 d1 d2 d3
              rw [e1, e2, e3]
              have s1 : (x.toList == x.toList) = true := by simp
              have s2 : (y.toList == y.toList) = true := by simp
              clear G4 e1 e2 e3 e4 HOT HCL hf17 hf16 hK16 hRI hw17 n1 n2 c0'
              go_wp2_with fail
              go_ret
              exact ⟨rfl, hK17⟩
        · clear F3 HIL
          subst hfa
          have hfb' : (fb != 0) = true := by simpa using hfb
          go_wp2_with fail
          go_ret
          exact ⟨rfl, hKn⟩
      · clear F3 HIL
        have hfa' : (fa != 0) = true := by simpa using hfa
        go_wp2_with fail
        go_ret
        exact ⟨rfl, hKn⟩
    · clear G2
      go_wp2_with fail
      go_ret
      exact ⟨rfl, hK10⟩
  · have G1 := F1.out hf
    subst G1
    clear F1 F2 HC2 HI1 HI2
    go_wp2_with fail
    go_ret
    exact ⟨rfl, hK3.trans (Kept.alloc _ _)⟩
end
end Go.Proofs.YtleenphlgbklmabGreatDoor
