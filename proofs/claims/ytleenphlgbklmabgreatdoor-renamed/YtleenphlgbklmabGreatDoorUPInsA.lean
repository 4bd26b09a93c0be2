import Derived.Test.YtleenphlgbklmabGreatDoorUPCanon
import Derived.Test.YtleenphlgbklmabGreatDoorUWParsed
import Derived.Test.YtleenphlgbklmabGreatDoorUWCanon
import Derived.Test.YtleenphlgbklmabGreatDoorUPPJ
import Derived.Test.YtleenphlgbklmabGreatDoorUPMap
set_option linter.unusedVariables false
set_option linter.unusedSimpArgs false
namespace Go.Proofs.YtleenphlgbklmabGreatDoor
open Go.RowKit

theorem kinds_same : kkinds = tyWords := rfl
end Go.Proofs.YtleenphlgbklmabGreatDoor

namespace Go.Proofs.YtleenphlgbklmabGreatDoor
open Go.RowKit

/-- what a text is as a type: none, by a fault; or one, with its names. -/
inductive RdO where
  | bad (what loc : Int) | good (t : Ty) (names : List ByteArray)
/-- what parseType answers. -/
def TOut (A : Nat → Addr) : RdO → World → Ending → World → Prop
  | .bad what loc, w, e, w' => Kept w w' ∧ ∃ T u, e = .returned (.tuple #[.nilIface, .iface T u]) ∧ ∀ w2, Kept w' w2 → Calls Tryz.prog 22 #[.iface T u] w2 fun e w'' => e = .returned (faultVal what loc { data := #[] }) ∧ Kept w2 w''
  | .good t names, w, e, w' => Kept w w' ∧ ∃ T u vb, e = .returned (.tuple #[.iface T u, .nilIface]) ∧ PTyR w' vb w.heap.size w'.heap.size t (.iface T u) ∧ vb.Nodup ∧ NB w' vb names
def RdO.ok : RdO → Prop
  | .bad what _ => 0 < what
  | .good t names => sz t ≤ 120 ∧ WT names.length t ∧ NW names ∧ (∀ m, m ∈ names → 0 < m.size ∧ m.size ≤ 300) ∧ (∀ i, i < names.length → Occ i t) ∧ names.length ≤ 301
end Go.Proofs.YtleenphlgbklmabGreatDoor

namespace Go.Proofs.YtleenphlgbklmabGreatDoor
open Go.RowKit

/-- what a text is as a type. -/
def rdO (s : ByteArray) : RdO :=
  if 300 < s.size then .bad 1 0
  else match arrowM (lexT s) (2 * (lexT s).length + 2) [] 0 (-1) with
    | none => .bad 1 0
    | some (t, names, K, B) => if 0 ≤ needB (lexT s) { data := #[101, 110, 100] } K B then .bad 2 (needB (lexT s) { data := #[101, 110, 100] } K B) else if 120 < sz t then .bad 8 0 else .good t names
theorem rd_prog {A : Nat → Addr} (s : ByteArray) (hm : s.size ≤ 9223372036854775807) : (∀ W, Glb A W → Calls Tryz.prog 35 #[.string s] W (TOut A (rdO s) W)) ∧ (rdO s).ok := by
  unfold rdO
  by_cases hs : 300 < s.size
  · rw [if_pos hs]
    refine ⟨fun W hG => (ptype_long s W hG hs hm).mono ?_, by show (0 : Int) < 1; omega⟩
    rintro e w' ⟨rfl, hk⟩
    exact ⟨hk, _, _, rfl, fun w2 hk2 => fault_sen w2 ((hG.kept hk).kept hk2) 0 (by omega)⟩
  · rw [if_neg hs]
    have hs : s.size ≤ 300 := by omega
    have hE : PEnv s tyWords (lexT s) := ⟨hs, tyWordsOk, by unfold lexT; rw [kinds_same]⟩
    have hlp := (lexT0 hE).1
    obtain ⟨⟨t, names, K, B⟩, hM⟩ := (tread_total (lexT s) hE.good (lexT s).length).1 [] 0 (-1) (2 * (lexT s).length + 2) hlp (by omega) (by omega)
    rw [hM]
    have hlen : (lexT s).length ≤ 301 := by
      have := toks_len s kkinds (s.size + 1) 0
      unfold lexT
      omega
    have hneg : needB (lexT s) { data := #[101, 110, 100] } K B < 0 → B < 0 := fun h => (needB_negT h).1
    have hP := fun W (hG : Glb A W) => ptype_any hE W hG _ t names K B hM
    simp only
    by_cases hF : 0 ≤ needB (lexT s) { data := #[101, 110, 100] } K B
    · rw [if_pos hF]
      refine ⟨fun W hG => (hP W hG).mono ?_, by show (0 : Int) < 2; omega⟩
      rintro e w' ⟨hk, h⟩
      rcases h with ⟨b, l, e1, e2, e3⟩ | ⟨e1, _⟩ | ⟨e1, _⟩
      · refine ⟨hk, _, _, e2, fun w2 hk2 => ?_⟩
        rw [e1]
        exact (fault_syn w2 ((hG.kept hk).kept hk2) ⟨b, 0, none⟩ l (by have := hk2.blk e3; simp [World.cell?, this])).mono (fun e w'' ⟨a1, a2⟩ => ⟨a1, Kept.below a2⟩)
      · omega
      · omega
    · rw [if_neg hF]
      have hF : needB (lexT s) { data := #[101, 110, 100] } K B < 0 := by omega
      by_cases hd : 120 < sz t
      · rw [if_pos hd]
        refine ⟨fun W hG => (hP W hG).mono ?_, by show (0 : Int) < 8; omega⟩
        rintro e w' ⟨hk, h⟩
        rcases h with ⟨b, l, e1, e2, e3⟩ | ⟨e1, _, e3⟩ | ⟨e1, e2, _⟩
        · omega
        · exact ⟨hk, _, _, e3, fun w2 hk2 => fault_sen w2 ((hG.kept hk).kept hk2) 4 (by omega)⟩
        · omega
      · rw [if_neg hd]
        have hno := names_ok hE hM hF
        have hgood := (tread_good (lexT s) _).1 _ _ _ _ _ _ _ hM (hneg hF)
        have hnk := ((tread_ok (lexT s) hE.good _).1 _ _ _ _ _ _ _ hM hlp (NmOk.nil _)).2
        refine ⟨fun W hG => (hP W hG).mono ?_, by omega, hgood.2.2.2, hno.1, hno.2.1, hno.2.2, by have := hnk.len; omega⟩
        rintro e w' ⟨hk, h⟩
        rcases h with ⟨b, l, e1, e2, e3⟩ | ⟨e1, e2, e3⟩ | ⟨e1, e2, v, vb, e3, e4, e5, e6, e7⟩
        · omega
        · omega
        · obtain ⟨T, u, rfl⟩ := e4.iface
          exact ⟨hk, T, u, vb, e3, e4, e6, e7⟩
def COut : RdO → Value
  | .bad what loc => .tuple #[.string { data := #[] }, faultVal what loc { data := #[] }]
  | .good t _ => .tuple #[.string (canT t), faultVal 0 0 { data := #[] }]
theorem plcanon_rd {A : Nat → Addr} (s : ByteArray) (w : World) (hG : Glb A w) (hm : s.size ≤ 9223372036854775807) : Calls Tryz.prog 8 #[.string s] w fun e w' => e = .returned (COut (rdO s)) ∧ Kept w w' := by
  unfold rdO
  by_cases hs : 300 < s.size
  · rw [if_pos hs]
    exact plcanon_long s w hG hs hm
  · rw [if_neg hs]
    have hs : s.size ≤ 300 := by omega
    have hE : PEnv s tyWords (lexT s) := ⟨hs, tyWordsOk, by unfold lexT; rw [kinds_same]⟩
    have hlp := (lexT0 hE).1
    obtain ⟨⟨t, names, K, B⟩, hM⟩ := (tread_total (lexT s) hE.good (lexT s).length).1 [] 0 (-1) (2 * (lexT s).length + 2) hlp (by omega) (by omega)
    rw [hM]
    simp only
    refine (plcanon_any hE w hG _ t names K B hM).mono ?_
    rintro e w' ⟨hk, h1, h2, h3⟩
    refine ⟨?_, hk⟩
    by_cases hF : 0 ≤ needB (lexT s) { data := #[101, 110, 100] } K B
    · rw [if_pos hF]; exact h1 hF
    · rw [if_neg hF]
      by_cases hd : 120 < sz t
      · rw [if_pos hd]; exact h2 (by omega) hd
      · rw [if_neg hd]; exact h3 (by omega) (by omega)
theorem nameM_fo (names : List ByteArray) (x : ByteArray) : FO (nameM names x).1 names.length (nameM names x).2.length := by
  unfold nameM
  split
  · rename_i j hj
    have := (List.findIdx?_eq_some_iff_getElem.1 hj).1
    exact .old j _ this
  · simp only [List.length_append, List.length_cons, List.length_nil, Nat.zero_add]
    exact .new _
theorem arrow_fo (L : List Tk) : ∀ n, (∀ names k bad t names' k' bad', arrowM L n names k bad = some (t, names', k', bad') → FO t names.length names'.length) ∧
    (∀ names k bad t names' k' bad', oneM L n names k bad = some (t, names', k', bad') → FO t names.length names'.length) := by
  intro n
  induction n with
  | zero => exact ⟨fun _ _ _ _ _ _ _ h => by simp [arrowM] at h, fun _ _ _ _ _ _ _ h => by simp [oneM] at h⟩
  | succ n ih =>
    refine ⟨?_, ?_⟩
    · intro names k bad t names' k' bad' h
      simp only [arrowM] at h
      obtain ⟨⟨x, n1, k1, b1⟩, h1, h2⟩ := Option.bind_eq_some_iff.1 h
      have f1 := ih.2 _ _ _ _ _ _ _ h1
      simp only at h2
      split at h2
      · obtain ⟨⟨y, n2, k2, b2⟩, h3, h4⟩ := Option.bind_eq_some_iff.1 h2
        have f2 := ih.1 _ _ _ _ _ _ _ h3
        simp only [Option.some.injEq, Prod.mk.injEq] at h4
        obtain ⟨rfl, rfl, rfl, _⟩ := h4
        exact .fn _ _ _ _ _ f1 f2
      · simp only [Option.some.injEq, Prod.mk.injEq] at h2
        obtain ⟨rfl, rfl, rfl, _⟩ := h2
        exact f1
    · intro names k bad t names' k' bad' h
      simp only [oneM] at h
      split at h
      · simp only [Option.some.injEq, Prod.mk.injEq] at h
        obtain ⟨rfl, rfl, rfl, _⟩ := h
        exact .int _
      · split at h
        · simp only [Option.some.injEq, Prod.mk.injEq] at h
          obtain ⟨rfl, rfl, rfl, _⟩ := h
          exact .bool _
        · split at h
          · obtain ⟨⟨x, n1, k1, b1⟩, h1, h2⟩ := Option.bind_eq_some_iff.1 h
            have f1 := ih.1 _ _ _ _ _ _ _ h1
            simp only [Option.some.injEq, Prod.mk.injEq] at h2
            obtain ⟨rfl, rfl, rfl, _⟩ := h2
            exact .list _ _ _ f1
          · split at h
            · obtain ⟨⟨x, n1, k1, b1⟩, h1, h2⟩ := Option.bind_eq_some_iff.1 h
              have f1 := ih.1 _ _ _ _ _ _ _ h1
              simp only at h2
              split at h2
              · obtain ⟨⟨y, n2, k2, b2⟩, h3, h4⟩ := Option.bind_eq_some_iff.1 h2
                have f2 := ih.1 _ _ _ _ _ _ _ h3
                simp only [Option.some.injEq, Prod.mk.injEq] at h4
                obtain ⟨rfl, rfl, rfl, _⟩ := h4
                exact .pair _ _ _ _ _ f1 f2
              · simp only [Option.some.injEq, Prod.mk.injEq] at h2
                obtain ⟨rfl, rfl, rfl, _⟩ := h2
                exact f1
            · simp only [Option.some.injEq, Prod.mk.injEq] at h
              obtain ⟨rfl, rfl, rfl, _⟩ := h
              exact nameM_fo _ _
theorem rd_fo {s : ByteArray} {t : Ty} {names : List ByteArray} (h : rdO s = .good t names) : FO t 0 names.length ∧ sz t ≤ 120 := by
  unfold rdO at h
  split at h
  · cases h
  · split at h
    · cases h
    · rename_i t' names' K B hM
      split at h
      · cases h
      · split at h
        · cases h
        · injection h with h1 h2
          subst h1
          subst h2
          exact ⟨(arrow_fo _ _).1 _ _ _ _ _ _ _ hM, by omega⟩
end Go.Proofs.YtleenphlgbklmabGreatDoor

namespace Go.Proofs.YtleenphlgbklmabGreatDoor
open Go.RowKit

/-- the first letters. -/
def lets (k : Nat) : List ByteArray := (List.range k).map letM
theorem lets_len (k : Nat) : (lets k).length = k := by simp [lets]
theorem lets_get {k n : Nat} (h : n < k) : (lets k).getD n { data := #[] } = letM n := by simp [lets, List.getD, h]
theorem letM_list (n : Nat) : (letM n).data.toList = if n < 26 then [UInt8.ofNat (97 + n)] else [UInt8.ofNat (97 + n % 26), UInt8.ofNat (48 + n / 26)] := by
  unfold letM
  split
  · rfl
  · simp [bytesN]
theorem u8_nat {n : Nat} (h : n < 256) : (UInt8.ofNat n).toNat = n := by rw [UInt8.toNat_ofNat']; omega
theorem letM_inj {a b : Nat} (ha : a < 260) (hb : b < 260) (e : letM a = letM b) : a = b := by
  have e1 : (letM a).data.toList = (letM b).data.toList := by rw [e]
  rw [letM_list, letM_list] at e1
  split at e1 <;> split at e1
  · simp only [List.cons.injEq, and_true] at e1
    have e2 := congrArg UInt8.toNat e1
    rw [u8_nat (by omega), u8_nat (by omega)] at e2
    omega
  · simp at e1
  · simp at e1
  · simp only [List.cons.injEq, and_true] at e1
    have e2 := congrArg UInt8.toNat e1.1
    have e3 := congrArg UInt8.toNat e1.2
    rw [u8_nat (by omega), u8_nat (by omega)] at e2 e3
    omega
theorem letM_own {n : Nat} (h : n < 260) : OwN (letM n) := by
  have hl : (letM n).data.toList.length ≤ 2 := by rw [letM_list]; split <;> simp
  have low : ∀ k, k < 26 → lowI ((UInt8.ofNat (97 + k)).toNat : Int) = true := fun k hk => by
    rw [u8_nat (by omega)]
    unfold lowI
    simp only [Bool.and_eq_true, decide_eq_true_eq]
    omega
  have fig : ∀ k, k < 10 → figI ((UInt8.ofNat (48 + k)).toNat : Int) = true := fun k hk => by
    rw [u8_nat (by omega)]
    unfold figI
    simp only [Bool.and_eq_true, decide_eq_true_eq]
    omega
  refine ⟨?_, ?_, by omega, ?_, ?_⟩
  · rw [letM_list]
    split
    · exact ⟨_, _, rfl, low n (by omega)⟩
    · exact ⟨_, _, rfl, low (n % 26) (by omega)⟩
  · rw [letM_list]
    intro d hd
    unfold lfI
    split at hd
    · simp only [List.mem_cons, List.not_mem_nil, or_false] at hd
      rw [hd, low n (by omega)]
      rfl
    · simp only [List.mem_cons, List.not_mem_nil, or_false] at hd
      rcases hd with rfl | rfl
      · rw [low (n % 26) (by omega)]; rfl
      · rw [fig (n / 26) (by omega)]; simp
  · cases e : sameS (letM n) { data := #[105, 110, 116] } with
    | false => rfl
    | true =>
      rw [(sameS_iff _ _).1 e] at hl
      exact absurd hl (by decide)
  · cases e : sameS (letM n) { data := #[98, 111, 111, 108] } with
    | false => rfl
    | true =>
      rw [(sameS_iff _ _).1 e] at hl
      exact absurd hl (by decide)
theorem lets_ok {k : Nat} (h : k ≤ 260) : okN (lets k) := by
  refine ⟨?_, fun m hm => ?_⟩
  · rw [List.nodup_iff_pairwise_ne, List.pairwise_iff_getElem]
    intro i j hi hj hij e
    rw [lets_len] at hi hj
    simp only [lets, List.getElem_map, List.getElem_range] at e
    have := letM_inj (by omega) (by omega) e
    omega
  · obtain ⟨i, hi, rfl⟩ := List.mem_map.1 hm
    exact letM_own (by have := List.mem_range.1 hi; omega)
theorem cnA_range (k m : Nat) (hk : k ≤ m) : ∀ q, q ≤ k → ∀ n, n < m → (cnA (List.range k) m q).getD n { data := #[] } = if n < q then letM n else { data := #[] }
  | 0, _, n, hn => by simp [cnA, List.getD, hn]
  | q + 1, hq, n, hn => by
    have h1 := cnA_range k m hk q (by omega) n hn
    have h2 := cnA_len (List.range k) m q
    have h3 : (List.range k).getD q 0 = q := by simp [List.getD, show q < k from by omega]
    rw [cnA, h3]
    by_cases e : n = q
    · subst e
      rw [if_pos (by omega)]
      simp [List.getD, h2, hn]
    · have : ((cnA (List.range k) m q).set q (letM q)).getD n { data := #[] } = (cnA (List.range k) m q).getD n { data := #[] } := by
        simp [List.getD, List.getElem?_set, Ne.symm e]
      rw [this, h1]
      by_cases hlt : n < q
      · rw [if_pos hlt, if_pos (by omega)]
      · rw [if_neg hlt, if_neg (by omega)]
theorem shT_congr {m : Nat} {t : Ty} (h : WT m t) (l l' : List ByteArray) (hl : ∀ n, n < m → l.getD n { data := #[] } = l'.getD n { data := #[] }) : shT l t = shT l' t := by
  induction h with
  | var n hn => rw [shT_var, shT_var]; exact hl n hn
  | int => rw [shT_int, shT_int]
  | bool => rw [shT_bool, shT_bool]
  | list a _ ih => rw [shT_list, shT_list, ih]
  | pair a b _ _ ih ih2 => rw [shT_pair, shT_pair, ih, ih2]
  | fn a b _ _ ih ih2 => rw [shT_fn, shT_fn, ih, ih2]
theorem canT_lets {t : Ty} {k : Nat} (h : FO t 0 k) : canT t = shT (lets k) t := by
  unfold canT
  have hv := h.vars
  simp only [List.range_zero] at hv
  rw [hv]
  have hm : k ≤ mxL (List.range k) := by
    cases k with
    | zero => omega
    | succ k => exact mxL_mem (List.mem_range.2 (by omega))
  refine shT_congr h.wt _ _ (fun n hn => ?_)
  unfold cnN
  rw [List.length_range, cnA_range k _ hm k (Nat.le_refl _) n (by omega), if_pos hn, lets_get hn]
theorem rd_sh {t : Ty} {k : Nat} (h : FO t 0 k) (hk : k ≤ 260) (hs : (shT (lets k) t).size ≤ 300) : rdO (shT (lets k) t) = if 120 < sz t then .bad 8 0 else .good t (lets k) := by
  obtain ⟨ps, h1, h2, h3, h4⟩ := sh_lx (lets k) (lets_ok hk) h (by rw [lets_len]; omega)
  generalize hT : shT (lets k) t = T at *
  have hx := h4 T 0 [] (by unfold Rs bsL; simp) (.inl rfl)
  rw [bsL_len, Nat.zero_add] at hx
  have hle := hx.le
  obtain ⟨m1, m2, m3⟩ := lex_all hx (T.size + 1) rfl (by omega)
  have hL : toksF T kkinds (T.size + 1) 0 = lexT T := rfl
  rw [hL] at m1 m2 m3
  have hr := h2 (lexT T) (2 * (lexT T).length + 2) 0 m1 (by rw [Nat.zero_add, m2]; decide) (by omega)
  simp only [List.take_zero, Nat.zero_add] at hr
  have ht : (lets k).take k = lets k := by rw [List.take_of_length_le]; rw [lets_len]; omega
  rw [ht] at hr
  unfold rdO
  rw [if_neg (by omega), hr]
  simp only
  rw [(take_of m2).2, if_neg (by decide)]
end Go.Proofs.YtleenphlgbklmabGreatDoor

namespace Go.Proofs.YtleenphlgbklmabGreatDoor
open Go.RowKit
open Go.Sort

section
variable {A : Nat → Addr} {s z : ByteArray} {w : World}
theorem plinst_bad1 {what loc : Int} (hG : Glb A w) (h1 : ∀ W, Glb A W → Calls Tryz.prog 35 #[.string s] W (TOut A (.bad what loc) W)) : Calls Tryz.prog 9 #[.string s, .string z] w fun e w' => e = .returned (.tuple #[.slice none 0 0, .slice none 0 0, .bool true, faultVal what loc { data := #[] }]) ∧ Kept w w' := by
  have hk0 : Kept w (w.alloc (.cells #[.int .i64 0, .int .i64 0, .string { data := #[] }, .int .i64 0, .int .i64 0] 23)) := Kept.alloc _ _
  have h2 := inst_err s z _ (fun T u w' => Kept (w.alloc (.cells #[.int .i64 0, .int .i64 0, .string { data := #[] }, .int .i64 0, .int .i64 0] 23)) w' ∧ ∀ w2, Kept w' w2 → Calls Tryz.prog 22 #[.iface T u] w2 fun e w'' => e = .returned (faultVal what loc { data := #[] }) ∧ Kept w2 w'') ((h1 _ (hG.kept hk0)).mono (fun e w' h => by
    obtain ⟨hk, T, u, e1, e2⟩ := h
    exact ⟨T, u, e1, hk, e2⟩))
  refine (pl_inst_err s z w (fun a b => a = what ∧ b = loc) (h2.mono (fun e w' h => ?_))).mono ?_
  · obtain ⟨T, u, e1, hR⟩ := h
    exact ⟨T, u, what, loc, e1, hR.out.1, hR.out.2, rfl, rfl⟩
  · rintro e w' ⟨a, b, e1, ⟨rfl, rfl⟩, hk⟩
    exact ⟨e1, hk⟩
theorem plinst_bad2 {t : Ty} {names : List ByteArray} {what loc : Int} (hG : Glb A w) (h1 : ∀ W, Glb A W → Calls Tryz.prog 35 #[.string s] W (TOut A (.good t names) W)) (h2 : ∀ W, Glb A W → Calls Tryz.prog 35 #[.string z] W (TOut A (.bad what loc) W)) : Calls Tryz.prog 9 #[.string s, .string z] w fun e w' => e = .returned (.tuple #[.slice none 0 0, .slice none 0 0, .bool true, faultVal what loc { data := #[] }]) ∧ Kept w w' := by
  have hk0 : Kept w (w.alloc (.cells #[.int .i64 0, .int .i64 0, .string { data := #[] }, .int .i64 0, .int .i64 0] 23)) := Kept.alloc _ _
  have h3 := inst_err2 s z _ (fun w1 => Kept (w.alloc (.cells #[.int .i64 0, .int .i64 0, .string { data := #[] }, .int .i64 0, .int .i64 0] 23)) w1) (fun T u w' => Kept (w.alloc (.cells #[.int .i64 0, .int .i64 0, .string { data := #[] }, .int .i64 0, .int .i64 0] 23)) w' ∧ ∀ w2, Kept w' w2 → Calls Tryz.prog 22 #[.iface T u] w2 fun e w'' => e = .returned (faultVal what loc { data := #[] }) ∧ Kept w2 w'') ((h1 _ (hG.kept hk0)).mono (fun e w' h => by
    obtain ⟨hk, T, u, vb, e1, _⟩ := h
    exact ⟨T, u, e1, hk⟩)) (fun w1 hq => (h2 w1 ((hG.kept hk0).kept hq.out)).mono (fun e w' h => by
    obtain ⟨hk, T, u, e1, e2⟩ := h
    exact ⟨T, u, e1, hq.out.trans hk, e2⟩))
  refine (pl_inst_err s z w (fun a b => a = what ∧ b = loc) (h3.mono (fun e w' h => ?_))).mono ?_
  · obtain ⟨T, u, e1, hR⟩ := h
    exact ⟨T, u, what, loc, e1, hR.out.1, hR.out.2, rfl, rfl⟩
  · rintro e w' ⟨a, b, e1, ⟨rfl, rfl⟩, hk⟩
    exact ⟨e1, hk⟩
/-- behind both readings: where the two types lie. -/
def Two (w0 : World) (tg ts : Ty) (names own : List ByteArray) (v x : Value) (w : World) : Prop := Kept w0 w ∧ ∃ vg vs lo hi lo2 hi2, PTyR w vg lo hi tg v ∧ NB w vg names ∧ PTyR w vs lo2 hi2 ts x ∧ NB w vs own ∧ vs.Nodup
theorem two_read {tg ts : Ty} {names own : List ByteArray} {w0 : World} (hG : Glb A w0) (h1 : ∀ W, Glb A W → Calls Tryz.prog 35 #[.string s] W (TOut A (.good tg names) W)) (h2 : ∀ W, Glb A W → Calls Tryz.prog 35 #[.string z] W (TOut A (.good ts own) W)) :
    Hid (Calls Tryz.prog 35 #[.string s] w0 fun e w' => ∃ T u, e = .returned (.tuple #[.iface T u, .nilIface]) ∧ Hid ((fun v w1 => Kept w0 w1 ∧ ∃ vg lo hi, PTyR w1 vg lo hi tg v ∧ NB w1 vg names) (.iface T u) w')) ∧
    Hid (∀ w1 v, Hid ((fun v w1 => Kept w0 w1 ∧ ∃ vg lo hi, PTyR w1 vg lo hi tg v ∧ NB w1 vg names) v w1) → Calls Tryz.prog 35 #[.string z] w1 fun e w' => ∃ T u, e = .returned (.tuple #[.iface T u, .nilIface]) ∧ Hid (Two w0 tg ts names own v (.iface T u) w')) := by
  refine ⟨(h1 w0 hG).mono (fun e w' h => ?_), fun w1 v hq => ?_⟩
  · obtain ⟨hk, T, u, vb, e1, e2, e3, e4⟩ := h
    exact ⟨T, u, e1, hk, vb, _, _, e2, e4⟩
  · obtain ⟨hk1, vg, lo, hi, q1, q2⟩ := hq.out
    refine (h2 w1 (hG.kept hk1)).mono (fun e w' h => ?_)
    obtain ⟨hk, T, u, vb, e1, e2, e3, e4⟩ := h
    exact ⟨T, u, e1, hk1.trans hk, vg, vb, lo, hi, _, _, q1.keep (PKeep.kept hk), ⟨q2.1, fun j hj => hk.blk (q2.2 j hj)⟩, e2, e4, e3⟩
theorem two_match {tg ts : Ty} {names own : List ByteArray} {w0 : World} (g1 : (RdO.good tg names).ok) (g2 : (RdO.good ts own).ok) (w2 : World) (v x : Value) (h : Two w0 tg ts names own v x w2) :
    Calls Tryz.prog 41 #[.map (some w2.heap.size), v, x] (w2.alloc (.map #[] 0)) fun e w' => ∃ kv', e = .returned (.bool (matM tg ts (List.replicate names.length none)).2) ∧ SM w' w2.heap.size kv' ∧ ((matM tg ts (List.replicate names.length none)).2 = true → MG names own kv' (matM tg ts (List.replicate names.length none)).1) ∧ Kept w0 w' := by
  obtain ⟨hk, vg, vs, lo, hi, lo2, hi2, q1, q2, q3, q4, q5⟩ := h
  obtain ⟨a1, a2, a3, a4, a5, a6⟩ := g1
  obtain ⟨b1, b2, b3, b4, b5, b6⟩ := g2
  have hka : Kept w2 (w2.alloc (.map #[] 0)) := Kept.alloc _ _
  have hsm : SM (w2.alloc (.map #[] 0)) w2.heap.size [] := ⟨by have := heap_alloc_new w2 (.map #[] 0); simpa [tEs] using this, by simp⟩
  have hmg : MG names own [] (List.replicate names.length none) := ⟨by simp, (fun n t hn => by
    have : (List.replicate names.length (none : Option Ty)).getD n none = none := by
      simp only [List.getD, List.getElem?_replicate]
      split <;> rfl
    rw [this] at hn
    cases hn), (fun n hn _ => rfl), (fun y hy => by simp at hy)⟩
  have hC : MC names own := ⟨a3.nd, fun n hn => by have := (a4 n hn).2; omega, b3, fun n hn => ⟨(b4 n hn).1, by have := (b4 n hn).2; omega⟩⟩
  refine (mt_all names own hC a2 (w2.alloc (.map #[] 0)) w2.heap.size vg vs [] _ lo hi lo2 hi2 ts v x ⟨⟨q2.1, fun j hj => hka.blk (q2.2 j hj)⟩, ⟨q4.1, fun j hj => hka.blk (q4.2 j hj)⟩, q5, hsm, hmg⟩ (q1.keep (PKeep.kept hka)) (q3.keep (PKeep.kept hka)) b1).mono ?_
  rintro e w' ⟨kv', e1, e2, e3, e4⟩
  refine ⟨kv', e1, e2, e3, hk.trans ⟨e4.os, e4.output, by have := e4.size; simp at this; omega, fun q hq => ?_⟩⟩
  rw [e4.block q (by simp; omega) (fun z => by have z : q = w2.heap.size := z; omega)]
  exact Below.heap_alloc _ _ _ hq
theorem plinst_no {tg ts : Ty} {names own : List ByteArray} (hG : Glb A w) (h1 : ∀ W, Glb A W → Calls Tryz.prog 35 #[.string s] W (TOut A (.good tg names) W)) (h2 : ∀ W, Glb A W → Calls Tryz.prog 35 #[.string z] W (TOut A (.good ts own) W)) (g1 : (RdO.good tg names).ok) (g2 : (RdO.good ts own).ok) (hM : (matM tg ts (List.replicate names.length none)).2 = false) :
    Calls Tryz.prog 9 #[.string s, .string z] w fun e w' => e = .returned (.tuple #[.slice none 0 0, .slice none 0 0, .bool true, faultVal 11 0 { data := #[] }]) ∧ Kept w w' := by
  have hk0 : Kept w (w.alloc (.cells #[.int .i64 0, .int .i64 0, .string { data := #[] }, .int .i64 0, .int .i64 0] 23)) := Kept.alloc _ _
  generalize hW : w.alloc (.cells #[.int .i64 0, .int .i64 0, .string { data := #[] }, .int .i64 0, .int .i64 0] 23) = W at *
  have hG0 := hG.kept hk0
  obtain ⟨r1, r2⟩ := two_read (w0 := W) hG0 h1 h2
  have h3 := inst_no s z W _ _ (fun w' => Kept W w') (A 7) r1 r2 (fun w2 v x hq => (two_match g1 g2 w2 v x hq.out).mono (fun e w' h => by
    obtain ⟨kv', e1, _, _, e4⟩ := h
    rw [hM] at e1
    exact ⟨e1, e4, (hG0.kept e4).c7⟩))
  have h4 := pl_inst_err s z w (fun a b => a = 11 ∧ b = 0)
  rw [hW] at h4
  refine (h4 (h3.mono (fun e w' h => ?_))).mono ?_
  · obtain ⟨e1, w3, rfl, hR⟩ := h
    refine ⟨_, _, 11, 0, e1, hR.out.drw, fun w2 hk2 => ?_, rfl, rfl⟩
    exact fault_sen w2 ((hG0.kept hR.out.drw).kept hk2) 7 (by omega)
  · rintro e w' ⟨a, b, e1, ⟨rfl, rfl⟩, hk⟩
    exact ⟨e1, hk⟩
theorem plinst_yes {tg ts : Ty} {names own : List ByteArray} (hG : Glb A w) (h1 : ∀ W, Glb A W → Calls Tryz.prog 35 #[.string s] W (TOut A (.good tg names) W)) (h2 : ∀ W, Glb A W → Calls Tryz.prog 35 #[.string z] W (TOut A (.good ts own) W)) (g1 : (RdO.good tg names).ok) (g2 : (RdO.good ts own).ok) (hM : (matM tg ts (List.replicate names.length none)).2 = true) :
    Calls Tryz.prog 9 #[.string s, .string z] w fun e w' => ∃ (a b : Value) (kv : List (ByteArray × ByteArray)) (sk : List (List UInt8)), e = .returned (.tuple #[a, b, .bool false, faultVal 0 0 { data := #[] }]) ∧ MG names own kv (matM tg ts (List.replicate names.length none)).1 ∧ (kv.map Prod.fst).Nodup ∧ sk.Perm (kv.map fun y => y.1.data.toList) ∧ sk.Pairwise (fun x y => decide (x ≤ y) = true) ∧ w'.ownsRow 0 9 1 a sk.length (sk.map encStr) ∧ w'.ownsRow 0 9 1 b sk.length (sk.map (keyV kv)) ∧ Kept w w' := by
  have hk0 : Kept w (w.alloc (.cells #[.int .i64 0, .int .i64 0, .string { data := #[] }, .int .i64 0, .int .i64 0] 23)) := Kept.alloc _ _
  generalize hW : w.alloc (.cells #[.int .i64 0, .int .i64 0, .string { data := #[] }, .int .i64 0, .int .i64 0] 23) = W at *
  have hG0 := hG.kept hk0
  obtain ⟨r1, r2⟩ := two_read (w0 := W) hG0 h1 h2
  have h3 := inst_yes s z W _ _ (fun mb w' => Kept W w' ∧ ∃ kv, SM w' mb kv ∧ MG names own kv (matM tg ts (List.replicate names.length none)).1) r1 r2 (fun w2 v x hq => (two_match g1 g2 w2 v x hq.out).mono (fun e w' h => by
    obtain ⟨kv', e1, e2, e3, e4⟩ := h
    rw [hM] at e1
    exact ⟨e1, e4, kv', e2, e3 hM⟩))
  have h4 := pl_inst_ok s z w (fun kv => MG names own kv (matM tg ts (List.replicate names.length none)).1 ∧ (kv.map Prod.fst).Nodup)
  rw [hW] at h4
  refine (h4 (h3.mono (fun e w' h => ?_))).mono ?_
  · obtain ⟨mb, e1, hR⟩ := h
    obtain ⟨hk, kv, hS, hMG⟩ := hR.out
    have hkey : ∀ y, y ∈ kv → y.1 ∈ names := fun y hy => by
      obtain ⟨n, hn, e2, _⟩ := hMG.key y hy
      rw [e2]
      simp [List.getD, hn]
    have hlen : kv.length ≤ names.length := by
      have := nodup_len (kv.map Prod.fst) names hS.nd (fun x hx => by
        obtain ⟨y, hy, rfl⟩ := List.mem_map.1 hx
        exact hkey y hy)
      simpa using this
    refine ⟨mb, kv, e1, hk, hS, ⟨hMG, hS.nd⟩, by have := g1.2.2.2.2.2; omega, fun y hy => ?_⟩
    have := (g1.2.2.2.1 _ (hkey y hy)).2
    unfold maxLen
    omega
  · rintro e w' ⟨a, b, kv, sk, e1, e2, _, e3, e4, e5, e6, e7⟩
    exact ⟨a, b, kv, sk, e1, e2.1, e2.2, e3, e4, e5, e6, e7⟩
end
end Go.Proofs.YtleenphlgbklmabGreatDoor
