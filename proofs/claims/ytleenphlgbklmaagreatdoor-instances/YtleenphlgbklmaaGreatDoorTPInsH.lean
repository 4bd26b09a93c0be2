import Derived.Test.YtleenphlgbklmaaGreatDoorTPInsF
import Derived.Sort.Walk0
set_option linter.unusedVariables false
set_option linter.unusedSimpArgs false
namespace Go.Proofs.YtleenphlgbklmaaGreatDoor
open Go.RowKit

/-- the pure side: the sorted names and their texts. -/
theorem ins_pure {names own : List ByteArray} {kv : List (ByteArray × ByteArray)} {gs : List (Option Ty)} {sk : List (List UInt8)} (hnd : names.Nodup) (hM : MG names own kv gs) (hk : (kv.map Prod.fst).Nodup) (hall : ∀ i, i < names.length → gs.getD i none ≠ none) (hp : sk.Perm (kv.map fun y => y.1.data.toList)) (hs : sk.Pairwise (fun x y => decide (x ≤ y) = true)) :
    sk.length = names.length ∧ InP names.length (fun q => ⟨(sk.getD q []).toArray⟩) (fun q => keyT kv (sk.getD q [])) (fun k => names.getD k { data := #[] }) (fun k => match gs.getD k none with | some t => shT own t | none => { data := #[] }) := by
  have hin : ∀ n, n < names.length → names.getD n { data := #[] } ∈ kv.map Prod.fst := fun n hn => by
    obtain ⟨t, ht⟩ := Option.ne_none_iff_exists'.1 (hall n hn)
    obtain ⟨j, hj, _⟩ := hM.got n t ht
    obtain ⟨h1, h2, _⟩ := List.findIdx?_eq_some_iff_getElem.1 hj
    have e := (sameS_iff _ _).1 h2
    rw [← e]
    exact List.mem_map.2 ⟨_, List.getElem_mem h1, rfl⟩
  have hlen : kv.length = names.length := by
    have h1 := nodup_len (kv.map Prod.fst) names hk (fun x hx => by
      obtain ⟨y, hy, rfl⟩ := List.mem_map.1 hx
      obtain ⟨n, hn, e, _⟩ := hM.key y hy
      rw [e]
      simp [List.getD, hn])
    have h2 := nodup_len names (kv.map Prod.fst) hnd (fun x hx => by
      obtain ⟨i, hi, rfl⟩ := List.mem_iff_getElem.1 hx
      have := hin i hi
      simpa [List.getD, hi] using this)
    simp at h1 h2
    omega
  have hsl : sk.length = names.length := by rw [hp.length_eq]; simpa using hlen
  have hsn : sk.Nodup := by
    rw [hp.nodup_iff]
    have e : (kv.map fun y => y.1.data.toList) = (kv.map Prod.fst).map (fun (b : ByteArray) => b.data.toList) := by simp
    rw [e]
    exact List.Pairwise.map _ (fun a b hab e => hab ((sameS_iff a b).1 (by simp [sameS, e]))) hk
  refine ⟨hsl, fun k q hk hq e => ?_, fun q hq => ?_, fun k hk => ?_⟩
  · obtain ⟨t, ht⟩ := Option.ne_none_iff_exists'.1 (hall k hk)
    obtain ⟨j, hj, h2, _⟩ := hM.got k t ht
    simp only at e ⊢
    rw [ht]
    simp only
    unfold keyT
    rw [e, hj]
    exact h2
  · have h1 : q < sk.length := by omega
    have h2 : q + 1 < sk.length := by omega
    have hle := (List.pairwise_iff_getElem.1 hs) q (q + 1) h1 h2 (by omega)
    have hne := (List.pairwise_iff_getElem.1 hsn) q (q + 1) h1 h2 (by omega)
    simp only [decide_eq_true_eq] at hle
    rw [bytesLess_eq, Lib.toList_data, Lib.toList_data]
    simp only [List.getD, List.getElem?_eq_getElem h1, List.getElem?_eq_getElem h2, Option.getD_some, decide_eq_true_eq]
    rcases List.le_iff_lt_or_eq.1 hle with h | h
    · exact h
    · exact absurd h hne
  · have h1 := hin k hk
    obtain ⟨y, hy, e⟩ := List.mem_map.1 h1
    have h2 : y.1.data.toList ∈ sk := hp.mem_iff.2 (List.mem_map.2 ⟨y, hy, rfl⟩)
    obtain ⟨q, hq, e2⟩ := List.mem_iff_getElem.1 h2
    refine ⟨q, by omega, ?_⟩
    simp only [← e]
    simp only [List.getD, List.getElem?_eq_getElem hq, Option.getD_some, e2]
end Go.Proofs.YtleenphlgbklmaaGreatDoor

namespace Go.Proofs.YtleenphlgbklmaaGreatDoor
open Go.RowKit

def NoF (w6 W : World) : Prop := ∀ (k : Nat) (o : Obj), w6.heap[k]? = some o → (∀ cs f, o ≠ .cells cs 27 f) → W.heap[k]? = some o
theorem NoF.tkeep {a b : World} (h : NoF a b) : TKeep a b := fun k cs e f he hk => h k _ hk (fun cs' f' q => by
  have q1 : e = 27 := by injection q
  rw [q1] at he
  rcases he with x | x <;> exact absurd x (by decide))
theorem NoF.row {a b : World} (h : NoF a b) {v : Value} {n : Nat} {xs : List Value} (hr : a.ownsRow 0 9 1 v n xs) : b.ownsRow 0 9 1 v n xs := by
  refine ⟨hr.1, ?_⟩
  rcases hr.2 with q | ⟨g, cap, cur, h1, h2, h3, h4⟩
  · exact .inl q
  · exact .inr ⟨g, cap, cur, h1, h2, h _ _ h3 (fun cs f q => by
      have q1 : 9 = 27 := by injection q
      exact absurd q1 (by decide)), h4⟩
theorem kept_row {a b : World} (h : Kept a b) {v : Value} {n : Nat} {xs : List Value} (hr : a.ownsRow 0 9 1 v n xs) : b.ownsRow 0 9 1 v n xs :=
  ownsRow_same hr (fun k hk => h.block k (World.ownsRow.lt hr k hk).2)
theorem kept_tkeep {a b : World} (h : Kept a b) : TKeep a b := fun k cs e f _ hk => h.blk hk
theorem kp_kept {a b : World} (h : Kp (fun _ => False) a b) : Kept a b := Kept.kp h
theorem grow_made (w : World) (n : Nat) (hn : n ≤ 1000) : GRow (w.alloc (.cells (madeCells #[.pointer none] n) 33)) (.slice (some ⟨w.heap.size, 0, none⟩) n n) (List.replicate n none) := by
  refine ⟨List.replicate n (.pointer none), ?_, by simp, fun i hi => ?_⟩
  · refine ⟨by simp, .inr ⟨w.heap.size, n, madeCells #[.pointer none] n, by simp, Nat.zero_le _, heap_alloc_new _ _, Nat.le_of_eq (by simp), by unfold maxLen; simp; omega, by simp [size_madeCells], ?_⟩⟩
    have h0 : (madeCells #[Value.pointer none] n).toList = List.replicate n (.pointer none) := by
      refine List.ext_getElem (by simp [size_madeCells]) (fun i h1 h2 => ?_)
      simp [madeCells, Nat.mod_one]
    rw [h0]
    simp
  · have h1 : (List.replicate n (none : Option Ty)).getD i none = none := by
      simp only [List.getD, List.getElem?_replicate]
      split <;> rfl
    have h2 : (List.replicate n (Value.pointer none)).getD i (.pointer none) = .pointer none := by
      simp only [List.getD, List.getElem?_replicate]
      split <;> rfl
    rw [h1, h2]
    rfl
theorem srow_at {w : World} {la : Option Addr} {lc n : Nat} {vs : List Value} {f : Nat → ByteArray} (h : w.ownsRow 0 9 1 (.slice la n lc) n vs) (hv : ∀ q, q < n → vs[q]? = some (.string (f q))) : SRow w la n f := by
  obtain ⟨ao, cap, e, h2⟩ := srow_of h hv
  injection e with e1
  subst e1
  exact h2
theorem instances_any {A : Nat → Addr} (s z : ByteArray) (w : World) (hG : Glb A w) (hs : s.size ≤ 9223372036854775807) (hz : z.size ≤ 9223372036854775807) : Calls Tryz.prog 5 #[.string s, .string z] w fun e w' => e = .returned (.bool true) ∧ Kept w w' := by
  obtain ⟨o1, p1, r1, k1⟩ := rd_both (A := A) s hs
  cases o1 with
  | bad what loc => exact insts_f1 s z w what loc k1 (fun W hk => plinst_bad1 (hG.kept hk) p1) (fun W _ => (r1 W).mono (fun e w' h => ⟨h.2, h.1⟩))
  | good tg names =>
    obtain ⟨o2, p2, r2, k2⟩ := rd_both (A := A) z hz
    cases o2 with
    | bad what loc =>
      refine insts_f2 s z w what loc k2 (fun W hk => plinst_bad2 (hG.kept hk) p1 p2) (fun W _ => (r1 W).mono (fun e w' h => ?_)) (fun W _ => (r2 W).mono (fun e w' h => ⟨h.2, h.1⟩))
      obtain ⟨hk, b, ao, cap, e1, _⟩ := h
      exact ⟨b, ao, _, cap, e1, hk⟩
    | good ts own =>
      have g1 := k1
      have g2 := k2
      obtain ⟨a1, a2, a3, a4, a5, a6⟩ := k1
      obtain ⟨b1, b2, b3, b4, b5, b6⟩ := k2
      have HR : Hid (∀ W, Kept w W → Calls Tryz.prog 19 #[.string s] W fun e w' => ∃ (b : Nat) (ao : Option Addr) (nc : Nat), e = .returned (.tuple #[.pointer (some ⟨b, 0, none⟩), .slice ao names.length nc, faultV 0 0]) ∧ Kp (fun _ => False) W w' ∧ Hid ((fun b ao nc w' => TRep w' tg (.pointer (some ⟨b, 0, none⟩)) ∧ w'.ownsRow 0 9 1 (.slice ao names.length nc) names.length (names.map Value.string)) b ao nc w')) := fun W _ => (r1 W).mono (fun e w' h => by
        obtain ⟨hk, b, ao, cap, e1, e2, e3⟩ := h
        exact ⟨b, ao, cap, e1, hk, e2, e3⟩)
      have HR2 : Hid (∀ W, Kept w W → Calls Tryz.prog 19 #[.string z] W fun e w' => ∃ (b : Nat) (ao : Option Addr) (nc : Nat), e = .returned (.tuple #[.pointer (some ⟨b, 0, none⟩), .slice ao own.length nc, faultV 0 0]) ∧ Kp (fun _ => False) W w' ∧ Hid ((fun b ao nc w' => TRep w' ts (.pointer (some ⟨b, 0, none⟩)) ∧ w'.ownsRow 0 9 1 (.slice ao own.length nc) own.length (own.map Value.string)) b ao nc w')) := fun W _ => (r2 W).mono (fun e w' h => by
        obtain ⟨hk, b, ao, cap, e1, e2, e3⟩ := h
        exact ⟨b, ao, cap, e1, hk, e2, e3⟩)
      have HMM : ∀ b0 b1 w3 w6 W, TRep w3 tg (.pointer (some ⟨b0, 0, none⟩)) → Kept w3 w6 → TRep w6 ts (.pointer (some ⟨b1, 0, none⟩)) → NoF w6 W → Calls Tryz.prog 22 #[.pointer (some ⟨b0, 0, none⟩), .pointer (some ⟨b1, 0, none⟩), .slice (some ⟨W.heap.size, 0, none⟩) names.length names.length] (W.alloc (.cells (madeCells #[.pointer none] names.length) 33)) fun e w' => ∃ gv', e = .returned (.tuple #[gv', .bool (matM tg ts (List.replicate names.length none)).2]) ∧ GRow w' gv' (matM tg ts (List.replicate names.length none)).1 ∧ Kept W w' := fun b0 b1 w3 w6 W h1 h2 h3 h4 => by
        have tk : TKeep w6 (W.alloc (.cells (madeCells #[.pointer none] names.length) 33)) := h4.tkeep.trans (TKeep.alloc _ _)
        refine (matched_any tg _ _ _ _ ts (List.replicate names.length none) names.length own.length a2 b2 (TRep.keep ((kept_tkeep h2).trans tk) _ h1) (TRep.keep tk _ h3) (grow_made W names.length (by omega)) (by simp) (by omega)).mono ?_
        rintro e w' ⟨gv', e1, e2, e3⟩
        exact ⟨gv', e1, e2, (Kept.alloc _ _).trans (Kept.below e3)⟩
      cases hM : (matM tg ts (List.replicate names.length none)).2 with
      | false =>
        refine insts_no s z w names.length own.length (by omega) _ _ (fun _ _ => True) (fun W hk => plinst_no (hG.kept hk) p1 p2 g1 g2 hM) HR HR2 (fun b0 ao0 nc0 b1 ao1 nc1 w3 w6 W h1 h2 h3 h4 => (HMM b0 b1 w3 w6 W h1.out.1 h2 h3.out.1 h4).mono ?_)
        rintro e w' ⟨gv', e1, e2, e3⟩
        rw [hM] at e1
        exact ⟨gv', e1, e3, trivial⟩
      | true =>
        have hbound : ∀ i, i < names.length → (matM tg ts (List.replicate names.length none)).1.getD i none ≠ none := fun i hi => matM_occ a2 own.length ts b2 _ i hM (a5 i hi) (by simpa using hi)
        have hsz : SzB 120 (matM tg ts (List.replicate names.length none)).1 := matM_sz a2 120 own.length ts b2 b1 _ (fun i t ht => by
          have h1 : (List.replicate names.length (none : Option Ty)).getD i none = none := by
            simp only [List.getD, List.getElem?_replicate]
            split <;> rfl
          rw [h1] at ht
          cases ht)
        obtain ⟨gs, hgs⟩ : ∃ gs, gs = (matM tg ts (List.replicate names.length none)).1 := ⟨_, rfl⟩
        rw [← hgs] at hbound hsz
        refine insts_yes s z w names.length own.length (by omega) (fun la lc ta tc ks tx w1 => ∃ lv tv, w1.ownsRow 0 9 1 (.slice la names.length lc) names.length lv ∧ w1.ownsRow 0 9 1 (.slice ta names.length tc) names.length tv ∧ (∀ q, q < names.length → lv[q]? = some (.string (ks q)) ∧ tv[q]? = some (.string (tx q))) ∧ ∀ n t, gs.getD n none = some t → WT own.length t) _ _ (fun k => names.getD k { data := #[] }) (fun k => match gs.getD k none with | some t => shT own t | none => { data := #[] }) (fun W hk => (plinst_yes (hG.kept hk) p1 p2 g1 g2 hM).mono ?_) HR HR2 (fun la lc ta tc ks tx w1 b0 ao0 nc0 b1 ao1 nc1 w3 w6 W h0 h01 h1 h2 h3 h4 => (HMM b0 b1 w3 w6 W h1.out.1 h2 h3.out.1 h4).mono ?_)
        · rintro e w' ⟨a, b, kv, sk, e1, e2, e3, e4, e5, e6, e7, e8⟩
          rw [← hgs] at e2
          obtain ⟨hl, hP⟩ := ins_pure a3.nd e2 e3 hbound e4 e5
          rw [hl] at e6 e7
          obtain ⟨la, lc, rfl, _⟩ := row_form0 e6
          obtain ⟨ta, tc, rfl, _⟩ := row_form0 e7
          refine ⟨la, lc, ta, tc, _, _, e1, e8, ⟨_, _, e6, e7, fun q hq => ?_, fun n t ht => ?_⟩, hP⟩
          · have hq' : q < sk.length := by omega
            simp [List.getD, hq', encStr, keyV]
          · obtain ⟨j, _, _, h⟩ := e2.got n t ht
            exact h
        · rintro e w' ⟨gv', e1, e2, e3⟩
          rw [hM] at e1
          rw [← hgs] at e2
          obtain ⟨lv, tv, q1, q2, q3, q4⟩ := h0.out
          have h4 : NoF w6 W := h4
          have x1 := kept_row e3 (h4.row (kept_row h2 (kept_row h01 q1)))
          have x2 := kept_row e3 (h4.row (kept_row h2 (kept_row h01 q2)))
          have x3 := kept_row e3 (h4.row (kept_row h2 h1.out.2))
          have x4 := kept_row e3 (h4.row h3.out.2)
          obtain ⟨ps, y1, y2, y3⟩ := e2
          have hgl : gs.length = names.length := by rw [hgs, matM_len]; simp
          rw [y2, hgl] at y1
          obtain ⟨ga, gc, rfl, _⟩ := row_form0 y1
          refine ⟨ga, gc, e1, e3, srow_at x1 (fun q hq => (q3 q hq).1), srow_at x2 (fun q hq => (q3 q hq).2), srow_at x3 (fun q hq => by simp [List.getD, hq]), ?_⟩
          have hgb : ∃ g, ∀ q, q < names.length → ga = some ⟨g, 0, none⟩ := by
            rcases y1.2 with ⟨_, z⟩ | ⟨g, cap, cur, z, _⟩
            · exact ⟨0, fun q hq => by omega⟩
            · exact ⟨g, fun q _ => by injection z⟩
          obtain ⟨g, hg⟩ := hgb
          refine ⟨g, fun q => ps.getD q (.pointer none), fun q hq => ⟨hg q hq, ?_, fun m => ?_⟩⟩
          · have hq' : q < ps.length := by omega
            have z1 := World.ownsRow.cells y1 (g := g) (by rw [hg q hq]; rfl) q (ps.getD q (.pointer none)) (by simp [List.getD, hq'])
            have z2 : ((⟨g, 0, none⟩ : Addr).add q) = ⟨g, q, none⟩ := by unfold Addr.add; split <;> simp_all
            rw [z2] at z1
            exact z1
          · obtain ⟨t, ht⟩ := Option.ne_none_iff_exists'.1 (hbound q hq)
            have z1 := y3 q (by omega)
            rw [ht] at z1
            simp only
            rw [ht]
            exact SShown.at (shown_any own (fun m hm => by have := (b4 m hm).2; omega) (q4 q t ht)) z1 x4 (by have := hsz q t ht; omega) m
end Go.Proofs.YtleenphlgbklmaaGreatDoor
