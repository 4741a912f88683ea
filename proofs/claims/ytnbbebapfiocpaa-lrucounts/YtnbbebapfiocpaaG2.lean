/- Contracts and pure facts that the proof needs, joined. -/
import Derived.Test.YtnbbebapfiocpaaG1
import Derived.BigQuiet

/- Put, and the calls by the list of keys and values (keys of type string). -/
namespace Go.Proofs.Ytnbbebapfiocpaa
open Go.RowKit

theorem sMm.nodes {w : World} {base m mb z most : Nat} {A B : List sNd} {n : sNd} {h mi g : Int} (q : sMm w base m mb z most (A ++ n :: B) h mi g) : (∀ x ∈ A ++ B, x.b ≠ n.b) ∧ (∀ x ∈ A, x.k ≠ n.k) ∧ (∀ x ∈ B, x.k ≠ n.k) := by
  have h1 : (sbs (n :: (A ++ B))).Nodup := (List.Perm.nodup_iff (by simp [sbs])).1 (List.nodup_cons.1 q.ring.nd).2
  have h2 : ((n :: (A ++ B)).map (·.k)).Nodup := (List.Perm.nodup_iff (by simp)).1 q.kd
  simp only [sbs_cons, List.nodup_cons] at h1
  simp only [List.map_cons, List.nodup_cons] at h2
  refine ⟨fun x hx e => h1.1 (e ▸ List.mem_map.2 ⟨x, hx, rfl⟩), fun x hx e => h2.1 (e ▸ List.mem_map.2 ⟨x, by simp [hx], rfl⟩), fun x hx e => h2.1 (e ▸ List.mem_map.2 ⟨x, by simp [hx], rfl⟩)⟩

theorem sMm.setV {w : World} {base m mb z most : Nat} {A B : List sNd} {n : sNd} {h mi g : Int} (q : sMm w base m mb z most (A ++ n :: B) h mi g) (v : Int) :
    sMm (w.setCell ⟨n.b, 1, none⟩ (.int .i64 v)) base m mb z most (A ++ ⟨n.b, n.k, v⟩ :: B) h mi g := by
  have hbs : sbs (A ++ ⟨n.b, n.k, v⟩ :: B) = sbs (A ++ n :: B) := by simp [sbs]
  have hks : (A ++ ⟨n.b, n.k, v⟩ :: B).map (·.k) = (A ++ n :: B).map (·.k) := by simp
  have hmem : n.b ∈ z :: sbs (A ++ n :: B) := by simp [sbs]
  have r := Fr.set w n.b 1 (.int .i64 v)
  have nd := q.nodes
  have hat : sat (A ++ ⟨n.b, n.k, v⟩ :: B) = sat (A ++ n :: B) := by
    funext k
    simp only [sat, List.find?_append, List.find?_cons]
    by_cases hk : n.k = k
    · cases hA : A.find? (fun n => decide (n.k = k)) <;> simp [hk]
    · simp [hk]
  refine ⟨by rw [hbs]; exact q.lo, r.blk q.blk (fun e => q.mOut (by simp at e; rw [e]; exact hmem)), ?_, ?_, fun x hx => ?_, by rw [hks]; exact q.kd, fun x hx => ?_, q.one, q.big, by simpa using q.le⟩
  · rw [hat, show (A ++ ⟨n.b, n.k, v⟩ :: B).length = (A ++ n :: B).length by simp]
    exact q.map.fr r (fun e => q.mapOut (by simp at e; rw [e]; exact hmem))
  · rw [hbs]
    refine ⟨fun x hx => ?_, q.ring.lk.keep (fun x _ => cell_set_other (by omega)) (fun x _ => cell_set_other (by omega)), q.ring.nd⟩
    obtain ⟨k, u, e⟩ := q.ring.en x hx
    by_cases hxb : x = n.b
    · subst hxb; exact ⟨k, _, e.setV _⟩
    · exact ⟨k, u, e.fr r (by simpa using hxb)⟩
  · rcases List.mem_append.1 hx with hx | hx
    · exact (q.ents x (by simp [hx])).fr r (by simpa using nd.1 x (by simp [hx]))
    · rcases List.mem_cons.1 hx with rfl | hx
      · exact (q.ents n (by simp)).setV _
      · exact (q.ents x (by simp [hx])).fr r (by simpa using nd.1 x (by simp [hx]))
  · rcases List.mem_append.1 hx with hx | hx
    · exact q.kok x (by simp [hx])
    · rcases List.mem_cons.1 hx with rfl | hx
      · exact q.kok n (by simp)
      · exact q.kok x (by simp [hx])

section
variable {w : World} {base m mb z most : Nat} {N : List sNd} {h mi g : Int}

def sk0 : ByteArray := { data := #[] }

set_option maxHeartbeats 2000000 in
theorem sput_hit (A B : List sNd) (n : sNd) (q : sMm w base m mb z most (A ++ n :: B) h mi g) (v : Int) :
    Calls Try.prog 26 #[pt m, skV n.k, .int .i64 v] w fun e w' => e = .returned (.tuple #[skV sk0, .bool false]) ∧ sMm w' base m mb z most (⟨n.b, n.k, v⟩ :: (A ++ B)) h mi g ∧ Fr w w' (m :: mb :: z :: sbs (A ++ n :: B)) := by
  have hn : n ∈ A ++ n :: B := by simp
  have HM := hid (smade_any q)
  have HI := hid (sisItself_any w n.k)
  have HQ := hid q
  have HKK := hid (q.kok n hn)
  clear q hn
  have HI2 : Hid (Calls Try.prog 50 #[skV n.k] w fun e w' => e = .returned (.bool true) ∧ Below w.heap.size w w') := HI
  clear HI
  obtain ⟨κ, HK⟩ : ∃ κ, Hid (skV n.k = κ) := ⟨_, rfl⟩
  rw [HK.out] at HI2 ⊢
  obtain ⟨b, HBb⟩ : ∃ b, Hid (n.b = b) := ⟨_, rfl⟩
  go_enter Try.func26, Try.ntmps26
  go_wp2_with fail
  refine HM.out.mono ?_
  rintro e w1 ⟨rfl, hw⟩
  subst hw
  go_wp2_with fail
  refine HI2.out.mono ?_
  rintro e w2 ⟨rfl, hb2⟩
  have HB2 := hid hb2
  have HQ2 := hid (HQ.out.below hb2)
  have c1 := HQ2.out.c1
  have hlook := HQ2.out.map.look skeyed Try.underlying93 (szeroE w2) (skey HKK.out)
  rw [sat_some HQ2.out.kd (by simp), ptO_some, HK.out, HBb.out] at hlook
  have ee := HQ2.out.ents n (by simp)
  rw [HBb.out] at ee
  have e1 := ee.c1
  have f1 := ee.fz 1
  have HQ3 := hid (HQ2.out.setV v)
  rw [HBb.out] at HQ3
  have d2 := HQ3.out.c2
  have hbs : sbs (A ++ n :: B) = sbs A ++ b :: sbs B := by simp [sbs, HBb.out]
  have hbs2 : sbs (A ++ ⟨b, n.k, v⟩ :: B) = sbs A ++ b :: sbs B := by simp [sbs]
  have HR : Hid (Rg 99 (w2.setCell ⟨b, 1, none⟩ (.int .i64 v)) z (sbs A ++ b :: sbs B)) := by
    have := HQ3.out.ring
    rw [hbs2] at this
    exact this
  have HRN := hid (srenew_any _ z b (sbs A) (sbs B) HR.out)
  have HBS := hid hbs
  have HBS2 := hid hbs2
  clear hb2 HR ee hbs hbs2 HI2 HM
  go_wp2_with fail
  refine HRN.out.mono ?_
  rintro e w3 ⟨rfl, hr3, hp3⟩
  have HQ4 : Hid (sMm w3 base m mb z most (⟨b, n.k, v⟩ :: (A ++ B)) h mi g) := by
    refine HQ3.out.turn (fun x => ?_) ?_ (by simp; omega) ?_ ?_
    · simp only [List.mem_append, List.mem_cons]
      exact ⟨fun h => by rcases h with h | h | h <;> simp [h], fun h => by rcases h with h | h | h <;> simp [h]⟩
    · have := HQ3.out.kd
      exact (List.Perm.nodup_iff (by simp)).1 this
    · rw [sbs_cons, sbs_app]; exact hr3
    · rw [HBS2.out]; exact hp3
  have HFR : Hid (Fr w1 w3 (m :: mb :: z :: sbs (A ++ n :: B))) := by
    refine ((Fr.of_below HB2.out _).trans (Fr.set w2 b 1 (.int .i64 v)) (fun x hx => Or.inl ?_)).trans hp3.fr (fun k hk => Or.inl ?_)
    · simp at hx; subst hx; rw [HBS.out]; simp
    · rw [HBS.out]
      exact List.mem_cons_of_mem _ (List.mem_cons_of_mem _ hk)
  clear hr3 hp3 HRN
  go_wp2
  go_ret2
  exact ⟨rfl, by rw [HBb.out]; exact HQ4.out, HFR.out⟩

set_option maxHeartbeats 2000000 in
theorem sput_room (q : sMm w base m mb z most N h mi g) (k : ByteArray) (hk : sKok k) (hn : sat N k = none) (hl : N.length < most) (v : Int) :
    Calls Try.prog 26 #[pt m, skV k, .int .i64 v] w fun e w' => ∃ b, e = .returned (.tuple #[skV sk0, .bool false]) ∧ sMm w' base m mb z most (⟨b, k, v⟩ :: N) h mi g ∧ Fr w w' (m :: mb :: z :: sbs N) ∧ w.heap.size ≤ b := by
  have HM := hid (smade_any q)
  have HI := hid (sisItself_any w k)
  have HQ := hid q
  have HKK := hid hk
  have HN := hid hn
  have HL := hid hl
  have hne : ((N.length : Int) == (most : Int)) = false := by simp; omega
  have hne2 : ¬ (N.length : Int) = (most : Int) := by omega
  clear q hn hk hl
  have HI2 : Hid (Calls Try.prog 50 #[skV k] w fun e w' => e = .returned (.bool true) ∧ Below w.heap.size w w') := HI
  clear HI
  obtain ⟨κ, HK⟩ : ∃ κ, Hid (skV k = κ) := ⟨_, rfl⟩
  rw [HK.out] at HI2 ⊢
  go_enter Try.func26, Try.ntmps26
  go_wp2_with fail
  refine HM.out.mono ?_
  rintro e w1 ⟨rfl, hw⟩
  subst hw
  go_wp2_with fail
  refine HI2.out.mono ?_
  rintro e w2 ⟨rfl, hb2⟩
  have HB2 := hid hb2
  have HQ2 := hid (HQ.out.below hb2)
  have c1 := HQ2.out.c1
  have hlook := HQ2.out.map.look skeyed Try.underlying93 (szeroE w2) (skey HKK.out)
  rw [HN.out, ptO_none, HK.out] at hlook
  have bd : Below w2.heap.size w2 w2.drew := ⟨rfl, rfl, rfl, Nat.le_refl _, fun _ _ => rfl⟩
  have HQ3 := hid (HQ2.out.below bd)
  have d1 := HQ3.out.c1
  have d0 := HQ3.out.c0
  have hlen := HQ3.out.map.len Try.underlying93
  have HA := hid (sadd_any HQ3.out k HKK.out HN.out HL.out v)
  rw [HK.out] at HA
  have HS := hid hb2.size
  clear hb2 HI2 HM bd
  go_upto_region 9 with fail
  go_region
  go_wp2_with fail
  refine HA.out.mono ?_
  rintro e w4 ⟨rfl, hq4, hf4⟩
  have HQ4 := hid hq4
  have HF4 := hid ((Fr.of_below HB2.out _).trans (⟨hf4.os, hf4.tape, hf4.output, hf4.size, hf4.block⟩ : Fr w2 w4 _) (fun x hx => Or.inl hx))
  clear hq4 hf4
  go_wp2
  go_ret2
  exact ⟨_, rfl, HQ4.out, HF4.out, HS.out⟩

set_option maxHeartbeats 2000000 in
theorem sput_full (A : List sNd) (o : sNd) (q : sMm w base m mb z most (A ++ [o]) h mi g) (k : ByteArray) (hk : sKok k) (hn : sat (A ++ [o]) k = none) (hl : (A ++ [o]).length = most) (v : Int) :
    Calls Try.prog 26 #[pt m, skV k, .int .i64 v] w fun e w' => ∃ b, e = .returned (.tuple #[skV o.k, .bool true]) ∧ sMm w' base m mb z most (⟨b, k, v⟩ :: A) h mi (wrap64 (g + 1)) ∧ Fr w w' (m :: mb :: z :: sbs (A ++ [o])) ∧ w.heap.size ≤ b := by
  have HM := hid (smade_any q)
  have HI := hid (sisItself_any w k)
  have HQ := hid q
  have HKK := hid hk
  have HN := hid hn
  have HNA : Hid (sat A k = none) := sat_none (fun n hx => sat_not hn n (by simp [hx]))
  have HLA : Hid (A.length < most) := hid (by rw [← hl]; simp)
  obtain ⟨len, HLN⟩ : ∃ len, Hid ((A ++ [o]).length = len) := ⟨_, rfl⟩
  have heq : ((len : Int) == (most : Int)) = true := by rw [← HLN.out, hl]; simp
  have heq2 : (len : Int) = (most : Int) := by rw [← HLN.out, hl]
  have HHE := hid heq2
  clear q hn hk hl heq2
  have HI2 : Hid (Calls Try.prog 50 #[skV k] w fun e w' => e = .returned (.bool true) ∧ Below w.heap.size w w') := HI
  clear HI
  obtain ⟨κ, HK⟩ : ∃ κ, Hid (skV k = κ) := ⟨_, rfl⟩
  rw [HK.out] at HI2 ⊢
  go_enter Try.func26, Try.ntmps26
  go_wp2_with fail
  refine HM.out.mono ?_
  rintro e w1 ⟨rfl, hw⟩
  subst hw
  go_wp2_with fail
  refine HI2.out.mono ?_
  rintro e w2 ⟨rfl, hb2⟩
  have HB2 := hid hb2
  have HQ2 := hid (HQ.out.below hb2)
  have c1 := HQ2.out.c1
  have hlook := HQ2.out.map.look skeyed Try.underlying93 (szeroE w2) (skey HKK.out)
  rw [HN.out, ptO_none, HK.out] at hlook
  have bd : Below w2.heap.size w2 w2.drew := ⟨rfl, rfl, rfl, Nat.le_refl _, fun _ _ => rfl⟩
  have HQ3 := hid (HQ2.out.below bd)
  have d1 := HQ3.out.c1
  have d0 := HQ3.out.c0
  have hlen := HQ3.out.map.len Try.underlying93
  rw [HLN.out] at hlen
  have HFG := hid (sforget_any A o HQ3.out)
  obtain ⟨κo, HKO⟩ : ∃ κo, Hid (skV o.k = κo) := ⟨_, rfl⟩
  rw [HKO.out] at HFG
  have HS := hid hb2.size
  clear hb2 HI2 HM bd
  go_upto_region 9 with fail
  go_region
  go_wp2_with fail
  refine HFG.out.mono ?_
  rintro e w3 ⟨rfl, hq3, hf3⟩
  have HF3 := hid ((Fr.of_below HB2.out _).trans (⟨hf3.os, hf3.tape, hf3.output, hf3.size, hf3.block⟩ : Fr w2 w3 _) (fun x hx => Or.inl hx))
  have HA := hid (sadd_any hq3 k HKK.out HNA.out HLA.out v)
  rw [HK.out] at HA
  have HS3 := hid (Nat.le_trans HS.out hf3.size)
  clear hq3 hf3
  go_wp2_with fail
  refine HA.out.mono ?_
  rintro e w4 ⟨rfl, hq4, hf4⟩
  have HQ4 := hid hq4
  have HF4 := hid (HF3.out.trans hf4 (fun x hx => Or.inl (by
    rw [sbs_app]
    simp only [List.mem_cons, List.mem_append] at hx ⊢
    rcases hx with h | h | h | h <;> simp [h])))
  clear hq4 hf4
  go_wp2
  go_ret2
  exact ⟨_, by rw [HKO.out]; rfl, HQ4.out, HF4.out, HS3.out⟩
end

end Go.Proofs.Ytnbbebapfiocpaa

/- The calls of a memo by the list of its keys and values (keys of type string). -/
namespace Go.Proofs.Ytnbbebapfiocpaa
open Go.RowKit

def skv (n : sNd) : ByteArray × Int := (n.k, n.v)

/-- block m is a memo with these keys and values, the newest first; its blocks are F -/
def sMo (w : World) (base m most : Nat) (L : List (ByteArray × Int)) (h mi g : Int) (F : List Nat) : Prop :=
  ∃ mb z N, (sMm w base m mb z most N h mi g ∧ N.length ≤ most) ∧ L = N.map skv ∧ F = m :: mb :: z :: sbs N

section

variable {w w' : World} {base m most : Nat} {L : List (ByteArray × Int)} {h mi g : Int} {F : List Nat}

theorem sMo.fr {G : List Nat} (q : sMo w base m most L h mi g F) (r : Fr w w' G) (hF : ∀ x ∈ F, x ∉ G) : sMo w' base m most L h mi g F := by
  obtain ⟨mb, z, N, ⟨q, hle⟩, rfl, rfl⟩ := q
  exact ⟨mb, z, N, ⟨q.fr r hF, hle⟩, rfl, rfl⟩
theorem sMo.below (q : sMo w base m most L h mi g F) (r : Below w.heap.size w w') : sMo w' base m most L h mi g F := q.fr (Fr.of_below r []) (by simp)
theorem sMo.lo (q : sMo w base m most L h mi g F) : ∀ x ∈ F, base ≤ x := by obtain ⟨mb, z, N, ⟨q, hle⟩, rfl, rfl⟩ := q; exact q.lo
theorem sMo.lts (q : sMo w base m most L h mi g F) : ∀ x ∈ F, x < w.heap.size := by obtain ⟨mb, z, N, ⟨q, hle⟩, rfl, rfl⟩ := q; exact q.lts
theorem sMo.base_le (q : sMo w base m most L h mi g F) : base ≤ w.heap.size := by obtain ⟨mb, z, N, ⟨q, hle⟩, rfl, rfl⟩ := q; exact q.base_le
theorem sMo.lw {base' : Nat} (q : sMo w base m most L h mi g F) (hb : base' ≤ base) : sMo w base' m most L h mi g F := by
  obtain ⟨mb, z, N, ⟨q, hle⟩, rfl, rfl⟩ := q
  exact ⟨mb, z, N, ⟨⟨fun x hx => Nat.le_trans hb (q.lo x hx), q.blk, q.map, q.ring, q.ents, q.kd, q.kok, q.one, q.big, q.le⟩, hle⟩, rfl, rfl⟩
theorem sMo.one (q : sMo w base m most L h mi g F) : 1 ≤ most := by obtain ⟨mb, z, N, ⟨q, hle⟩, rfl, rfl⟩ := q; exact q.one
theorem sMo.big (q : sMo w base m most L h mi g F) : most ≤ 4096 := by obtain ⟨mb, z, N, ⟨q, hle⟩, rfl, rfl⟩ := q; exact q.big
theorem sMo.le (q : sMo w base m most L h mi g F) : L.length ≤ most := by obtain ⟨mb, z, N, ⟨q, hle⟩, rfl, rfl⟩ := q; simpa using hle
theorem sMo.kd (q : sMo w base m most L h mi g F) : (L.map (·.1)).Nodup := by
  obtain ⟨mb, z, N, ⟨q, hle⟩, rfl, rfl⟩ := q
  have := q.kd
  rw [List.map_map]
  exact this
theorem sMo.kok (q : sMo w base m most L h mi g F) : ∀ x ∈ L, sKok x.1 := by
  obtain ⟨mb, z, N, ⟨q, hle⟩, rfl, rfl⟩ := q
  intro x hx
  obtain ⟨n, hn, rfl⟩ := List.mem_map.1 hx
  exact q.kok n hn
theorem sMo.low {F' : List Nat} (q : sMo w base m most L h mi g F) (s : St w w' F F') : Below base w w' := s.1.below q.base_le q.lo

theorem slen_mo (q : sMo w base m most L h mi g F) :
    Calls Try.prog 28 #[pt m] w fun e w' => e = .returned (.int .i64 L.length) ∧ w' = w := by
  obtain ⟨mb, z, N, ⟨q, hle⟩, rfl, rfl⟩ := q
  rw [List.length_map]
  exact slen_any q

theorem sget_mo (q : sMo w base m most L h mi g F) (k : ByteArray) (hk : sKok k) :
    Calls Try.prog 27 #[pt m, skV k] w fun e w' => e = .returned (.tuple #[.int .i64 ((lookP L k).getD 0), .bool (lookP L k).isSome]) ∧
      ∃ F', sMo w' base m most (getP L k) (if (lookP L k).isSome then wrap64 (h + 1) else h) (if (lookP L k).isSome then mi else wrap64 (mi + 1)) g F' ∧ St w w' F F' := by
  obtain ⟨mb, z, N, ⟨q, hle⟩, rfl, rfl⟩ := q
  cases hat : sat N k with
  | none =>
    have h0 : findP (N.map skv) k = none := findP_none (fun x hx => by obtain ⟨n, hn, rfl⟩ := List.mem_map.1 hx; exact sat_not hat n hn)
    have h1 : lookP (N.map skv) k = none := by unfold lookP; rw [h0]; rfl
    have h2 : getP (N.map skv) k = N.map skv := by unfold getP; rw [h0]
    rw [h1, h2]
    refine (sget_miss q k hk hat).mono ?_
    rintro e w' ⟨rfl, q', r⟩
    exact ⟨rfl, _, ⟨mb, z, N, ⟨q', hle⟩, rfl, rfl⟩, r.mono (by simp), fun x hx => Or.inl hx⟩
  | some b =>
    obtain ⟨A, n, B, rfl, rfl, rfl⟩ := sat_split hat
    have nd := q.nodes
    have nA : ∀ x ∈ A.map skv, x.1 ≠ n.k := fun x hx => by obtain ⟨y, hy, rfl⟩ := List.mem_map.1 hx; exact nd.2.1 y hy
    have nB : ∀ x ∈ B.map skv, x.1 ≠ n.k := fun x hx => by obtain ⟨y, hy, rfl⟩ := List.mem_map.1 hx; exact nd.2.2 y hy
    have h0 : findP ((A ++ n :: B).map skv) n.k = some (n.k, n.v) := by
      rw [List.map_append, List.map_cons, show skv n = (n.k, n.v) from rfl, findP_split nA]
    have h1 : lookP ((A ++ n :: B).map skv) n.k = some n.v := by unfold lookP; rw [h0]; rfl
    have h2 : getP ((A ++ n :: B).map skv) n.k = (n :: (A ++ B)).map skv := by
      unfold getP
      rw [h0]
      show (n.k, n.v) :: outP _ _ = _
      rw [List.map_append, List.map_cons, show skv n = (n.k, n.v) from rfl, outP_split nA nB, List.map_cons, List.map_append]
      rfl
    rw [h1, h2]
    refine (sget_hit A B n q).mono ?_
    rintro e w' ⟨rfl, q', r⟩
    refine ⟨rfl, _, ⟨mb, z, _, ⟨q', by simp at hle ⊢; omega⟩, rfl, rfl⟩, r.mono (fun x hx => Or.inl ?_), fun x hx => Or.inl ?_⟩
    · simp only [List.mem_cons] at hx ⊢
      rcases hx with h | h | h <;> simp [h]
    · simp only [sbs_cons, sbs_app, List.mem_cons, List.mem_append] at hx ⊢
      rcases hx with h | h | h | h | h | h <;> simp [h]

theorem sput_mo (q : sMo w base m most L h mi g F) (k : ByteArray) (hk : sKok k) (v : Int) :
    Calls Try.prog 26 #[pt m, skV k, .int .i64 v] w fun e w' => e = .returned (.tuple #[skV ((wentP most L k).getD sk0), .bool (wentP most L k).isSome]) ∧
      ∃ F', sMo w' base m most (putP most L k v) h mi (if (wentP most L k).isSome then wrap64 (g + 1) else g) F' ∧ St w w' F F' := by
  obtain ⟨mb, z, N, ⟨q, hle⟩, rfl, rfl⟩ := q
  cases hat : sat N k with
  | none =>
    have h0 : outP (N.map skv) k = N.map skv := outP_none (fun x hx => by obtain ⟨n, hn, rfl⟩ := List.mem_map.1 hx; exact sat_not hat n hn)
    by_cases hl : N.length < most
    · have h1 : wentP most (N.map skv) k = none := by unfold wentP; rw [h0, List.length_map, if_neg (by omega)]
      rw [h1]
      refine (sput_room q k hk hat hl v).mono ?_
      rintro e w' ⟨b, rfl, q', r, hb⟩
      refine ⟨rfl, _, ⟨mb, z, _, ⟨q', by simp; omega⟩, ?_, rfl⟩, r, fun x hx => ?_⟩
      · unfold putP
        rw [h0, List.take_of_length_le (by simp; omega)]
        rfl
      · simp only [sbs_cons, List.mem_cons] at hx ⊢
        rcases hx with h | h | h | h | h
        · simp [h]
        · simp [h]
        · simp [h]
        · exact Or.inr (by rw [h]; exact hb)
        · simp [h]
    · rcases List.eq_nil_or_concat N with rfl | ⟨A, o, hN⟩
      · have := q.one; simp at hl; omega
      rw [List.concat_eq_append] at hN
      subst hN
      have hlm : (A ++ [o]).length = most := by omega
      have h1 : wentP most ((A ++ [o]).map skv) k = some o.k := by
        unfold wentP; rw [h0, List.length_map, if_pos (by omega), List.map_append, List.map_cons, List.map_nil, List.getLast?_concat]; rfl
      rw [h1]
      refine (sput_full A o q k hk hat hlm v).mono ?_
      rintro e w' ⟨b, rfl, q', r, hb⟩
      refine ⟨rfl, _, ⟨mb, z, _, ⟨q', by simp at hlm ⊢; omega⟩, ?_, rfl⟩, r, fun x hx => ?_⟩
      · unfold putP
        have : most = (A.map skv).length + 1 := by simp at hlm ⊢; omega
        rw [h0, this, List.take_succ_cons, List.map_append, List.take_left, List.map_cons]
        rfl
      · simp only [sbs_cons, sbs_app, List.mem_cons, List.mem_append] at hx ⊢
        rcases hx with h | h | h | h | h
        · simp [h]
        · simp [h]
        · simp [h]
        · exact Or.inr (by rw [h]; exact hb)
        · simp [h]
  | some b =>
    obtain ⟨A, n, B, rfl, rfl, rfl⟩ := sat_split hat
    have nd := q.nodes
    have nA : ∀ x ∈ A.map skv, x.1 ≠ n.k := fun x hx => by obtain ⟨y, hy, rfl⟩ := List.mem_map.1 hx; exact nd.2.1 y hy
    have nB : ∀ x ∈ B.map skv, x.1 ≠ n.k := fun x hx => by obtain ⟨y, hy, rfl⟩ := List.mem_map.1 hx; exact nd.2.2 y hy
    have h0 : outP ((A ++ n :: B).map skv) n.k = (A ++ B).map skv := by
      rw [List.map_append, List.map_cons, show skv n = (n.k, n.v) from rfl, outP_split nA nB, List.map_append]
    have hle' : (A ++ B).length + 1 ≤ most := by simp at hle ⊢; omega
    have h1 : wentP most ((A ++ n :: B).map skv) n.k = none := by unfold wentP; rw [h0, List.length_map, if_neg (by omega)]
    rw [h1]
    refine (sput_hit A B n q v).mono ?_
    rintro e w' ⟨rfl, q', r⟩
    refine ⟨rfl, _, ⟨mb, z, _, ⟨q', by simp at hle' ⊢; omega⟩, ?_, rfl⟩, r, fun x hx => Or.inl ?_⟩
    · unfold putP
      rw [h0, List.take_of_length_le (by rw [List.length_cons, List.length_map]; exact hle')]
      rfl
    · simp only [sbs_cons, sbs_app, List.mem_cons, List.mem_append] at hx ⊢
      rcases hx with h | h | h | h | h | h <;> simp [h]

theorem snew_mo (w : World) (most : Nat) (h1 : 1 ≤ most) (h2 : most ≤ 4096) :
    Calls Try.prog 25 #[.int .i64 most] w fun e w' => ∃ m F, e = .returned (.tuple #[pt m, .int .i64 0]) ∧ sMo w' w.heap.size m most [] 0 0 0 F ∧ Below w.heap.size w w' := by
  refine (snew_ok w most h1 h2).mono ?_
  rintro e w' ⟨m, mb, z, rfl, q, r⟩
  exact ⟨m, _, rfl, ⟨mb, z, [], ⟨q, by simp⟩, rfl, rfl⟩, r⟩

end

end Go.Proofs.Ytnbbebapfiocpaa

/- alive. -/
namespace Go.Proofs.Ytnbbebapfiocpaa
open Go.RowKit

theorem al_ok (b : UInt8) : sKok { data := #[b] } := by unfold sKok maxLen; show 1 ≤ _; omega
theorem al_w1 : wentP 2 ([] : List (ByteArray × Int)) { data := #[97] } = none := by decide
theorem al_p1 : putP 2 ([] : List (ByteArray × Int)) { data := #[97] } 1 = [({ data := #[97] }, 1)] := by decide
theorem al_w2 : wentP 2 ([({ data := #[97] }, 1)] : List (ByteArray × Int)) { data := #[98] } = none := by decide
theorem al_p2 : putP 2 ([({ data := #[97] }, 1)] : List (ByteArray × Int)) { data := #[98] } 2 = [({ data := #[98] }, 2), ({ data := #[97] }, 1)] := by decide
theorem al_l3 : lookP ([({ data := #[98] }, 2), ({ data := #[97] }, 1)] : List (ByteArray × Int)) { data := #[97] } = some 1 := by decide
theorem al_g3 : getP ([({ data := #[98] }, 2), ({ data := #[97] }, 1)] : List (ByteArray × Int)) { data := #[97] } = [({ data := #[97] }, 1), ({ data := #[98] }, 2)] := by decide
theorem al_w4 : wentP 2 ([({ data := #[97] }, 1), ({ data := #[98] }, 2)] : List (ByteArray × Int)) { data := #[99] } = some { data := #[98] } := by decide
theorem al_p4 : putP 2 ([({ data := #[97] }, 1), ({ data := #[98] }, 2)] : List (ByteArray × Int)) { data := #[99] } 3 = [({ data := #[99] }, 3), ({ data := #[97] }, 1)] := by decide
theorem al_l5 : lookP ([({ data := #[99] }, 3), ({ data := #[97] }, 1)] : List (ByteArray × Int)) { data := #[97] } = some 1 := by decide
theorem al_g5 : getP ([({ data := #[99] }, 3), ({ data := #[97] }, 1)] : List (ByteArray × Int)) { data := #[97] } = [({ data := #[97] }, 1), ({ data := #[99] }, 3)] := by decide

set_option maxRecDepth 10000 in
set_option maxHeartbeats 2000000 in
theorem alive_any (w : World) : Calls Try.prog 11 #[] w fun e w' => e = .returned (.bool true) ∧ Below w.heap.size w w' := by
  go_enter Try.func11, Try.ntmps11
  go_wp2_with fail
  refine (snew_mo w 2 (by omega) (by omega)).mono ?_
  rintro e w1 ⟨m, F1, rfl, q1, b1⟩
  have H1 := hid (sput_mo q1 { data := #[97] } (al_ok 97) 1)
  rw [al_w1, al_p1] at H1
  have HQ1 := hid q1
  have HB1 := hid b1
  clear q1 b1
  go_wp2_with fail
  refine H1.out.mono ?_
  rintro e w2 ⟨rfl, F2, q2, s2⟩
  have H2 := hid (sput_mo q2 { data := #[98] } (al_ok 98) 2)
  rw [al_w2, al_p2] at H2
  have HB2 := hid (HB1.out.trans (HQ1.out.low s2))
  have HQ2 := hid q2
  clear q2 s2 HB1 HQ1 H1
  go_wp2_with fail
  refine H2.out.mono ?_
  rintro e w3 ⟨rfl, F3, q3, s3⟩
  have H3 := hid (sget_mo q3 { data := #[97] } (al_ok 97))
  rw [al_l3, al_g3] at H3
  have HB3 := hid (HB2.out.trans (HQ2.out.low s3))
  have HQ3 := hid q3
  clear q3 s3 HB2 HQ2 H2
  go_wp2_with fail
  refine H3.out.mono ?_
  rintro e w4 ⟨rfl, F4, q4, s4⟩
  have H4 := hid (sput_mo q4 { data := #[99] } (al_ok 99) 3)
  rw [al_w4, al_p4] at H4
  have HB4 := hid (HB3.out.trans (HQ3.out.low s4))
  have HQ4 := hid q4
  clear q4 s4 HB3 HQ3 H3
  go_wp2_with fail
  refine H4.out.mono ?_
  rintro e w5 ⟨rfl, F5, q5, s5⟩
  have H5 := hid (sget_mo q5 { data := #[97] } (al_ok 97))
  rw [al_l5, al_g5] at H5
  have HB5 := hid (HB4.out.trans (HQ4.out.low s5))
  have HQ5 := hid q5
  clear q5 s5 HB4 HQ4 H4
  go_wp2_with fail
  refine H5.out.mono ?_
  rintro e w6 ⟨rfl, F6, q6, s6⟩
  have H6 := hid (slen_mo q6)
  have HB6 := hid (HB5.out.trans (HQ5.out.low s6))
  clear q6 s6 HB5 HQ5 H5
  simp only [Option.getD_some, Option.isSome_some, skV]
  go_wp2_with fail
  refine H6.out.mono ?_
  rintro e w7 ⟨rfl, hw7⟩
  subst hw7
  go_wp2
  go_ret
  exact ⟨rfl, HB6.out⟩

end Go.Proofs.Ytnbbebapfiocpaa

/- How many entries there are behind each call. -/
namespace Go.Proofs.Ytnbbebapfiocpaa

section
variable {κ : Type} [DecidableEq κ]
theorem get_len {L : List (κ × Int)} (hd : (L.map (·.1)).Nodup) (k : κ) : (getP L k).length = L.length := by
  have h := outP_length hd k
  cases hl : lookP L k with
  | none => unfold getP; rw [findP_not hl]
  | some v =>
    unfold getP
    rw [findP_look hl]
    rw [hl] at h
    simpa using h
theorem went_hit {most : Nat} {L : List (κ × Int)} (hd : (L.map (·.1)).Nodup) (hl : L.length ≤ most) {k : κ} {x : Int} (h : lookP L k = some x) : wentP most L k = none := by
  have h2 := outP_length hd k
  rw [h] at h2
  simp at h2
  unfold wentP
  rw [if_neg (by omega)]
theorem put_hit_len {most : Nat} {L : List (κ × Int)} (hd : (L.map (·.1)).Nodup) (hl : L.length ≤ most) {k : κ} {x : Int} (v : Int) (h : lookP L k = some x) : (putP most L k v).length = L.length := by
  have h2 := outP_length hd k
  rw [h] at h2
  simp at h2
  unfold putP
  simp
  omega
theorem put_miss_len {most : Nat} {L : List (κ × Int)} (h1 : 1 ≤ most) (hl : L.length ≤ most) {k : κ} (v : Int) (h : lookP L k = none) :
    (putP most L k v).length + (if (wentP most L k).isSome then 1 else 0) = L.length + 1 := by
  have e : outP L k = L := outP_none (lookP_none.1 h)
  unfold putP wentP
  rw [e]
  by_cases hm : most ≤ L.length
  · rw [if_pos hm]
    cases hq : L.getLast? with
    | none => rw [List.getLast?_eq_none_iff] at hq; subst hq; simp at hm; omega
    | some y => simp; omega
  · rw [if_neg hm]; simp; omega
end

end Go.Proofs.Ytnbbebapfiocpaa

/- A region that draws its order, whose operations read, and whose callees may make memory: walked once. -/
namespace Go.Proofs.Ytnbbebapfiocpaa
open Go.RowKit

/-- a world in which all that was there is as it was -/
structure Bel (w : World) where
  out : World
  bel : Below w.heap.size w out
theorem bel_some (w : World) : Nonempty (Bel w) := ⟨⟨w, Below.refl _ _⟩⟩
theorem wp_region_quiet_bel {P : Program} {id : Nat} {Q : Exit → Act → World → Prop} {a : Act} {w : World} {l : List Oper} (hm : P.follows .mixedOrders = true) (hB : Region.lexB .any l.toArray = true)
    (h : wpQuiet P l.toArray (fun w' => ∃ p : Bel w, w' = p.out) (fun a' => ∀ w', (∃ p : Bel w, w' = p.out) → Q .normal a' w') l a) : (Code.region id l.toArray true).wp P Q a w :=
  wp_region_quiet (C := fun w' => ∃ p : Bel w, w' = p.out) hm hB ⟨⟨{ w with drawn := w.drawn + 1 }, ⟨rfl, rfl, rfl, Nat.le_refl _, fun _ _ => rfl⟩⟩, rfl⟩ (by simpa using h)
theorem Bel.cell {w : World} (p : Bel w) {b o : Nat} {v : Value} (h : w.cell? ⟨b, o, none⟩ = some v) (hb : b < w.heap.size) : p.out.cell? ⟨b, o, none⟩ = some v := (p.bel.cell (p := ⟨b, o, none⟩) hb).trans h
/-- a callee's contract, met in a world of the class -/
theorem bel_of {P : Program} {f : FuncId} {args : Array Value} {w : World} {p : Bel w} {v : Value}
    (h : Calls P f args p.out fun e w' => e = .returned v ∧ Below p.out.heap.size p.out w') : Calls P f args p.out fun e w'' => e = .returned v ∧ ∃ p' : Bel w, w'' = p'.out :=
  h.mono fun _ w' ⟨he, hb⟩ => ⟨he, ⟨w', p.bel.trans (hb.mono p.bel.size)⟩, rfl⟩
theorem bel_drew {P : Program} {f : FuncId} {args : Array Value} {w : World} {p : Bel w} {v : Value}
    (h : Calls P f args p.out fun e w' => e = .returned v ∧ ∃ n, w' = p.out.drewN n) : Calls P f args p.out fun e w'' => e = .returned v ∧ ∃ p' : Bel w, w'' = p'.out :=
  h.mono fun _ w' ⟨he, n, hw⟩ => ⟨he, ⟨w', by rw [hw]; exact ⟨p.bel.os, p.bel.tape, p.bel.output, p.bel.size, p.bel.block⟩⟩, rfl⟩
theorem bel_same {P : Program} {f : FuncId} {args : Array Value} {w : World} {p : Bel w} {v : Value}
    (h : Calls P f args p.out fun e w' => e = .returned v ∧ w' = p.out) : Calls P f args p.out fun e w'' => e = .returned v ∧ ∃ p' : Bel w, w'' = p'.out :=
  h.mono fun _ _ ⟨he, hw⟩ => ⟨he, p, hw⟩

theorem quiet_ld {P : Program} {a : Act} {o : Oper} {C : World → Prop} {K : Act → Prop} (ty : TypeId) (x : Operand) (ho : o.op = .load ty x) (b off : Nat) (hx : a.eval x = .pointer (some ⟨b, off, none⟩)) (cs : List Value) (d : TypeDesc) (hc : ∀ w, C w → w.rangeAt b off cs)
    (hu : P.underlying ty = some d) (hd : d.isRow = true) (hi : (P.info? ty).map (·.size) = some cs.length) (hk : K (a.put o.dst (.agg cs.toArray))) : o.quiet P a C K :=
  ⟨_, fun w hw => by
    unfold Oper.quietAt execOp
    simp only [ho, hx, Instr.loadAt, Instr.sureAddr, Sem.run_bind, Sem.run_pure, Result.andThen_ok, run_loadVar_mid w b off ty cs d (hc w hw) hu hd hi]
    exact ⟨rfl, rfl⟩, hk⟩
theorem Bel.range {w : World} {b off : Nat} {cs : List Value} (h : w.rangeAt b off cs) (hb : b < w.heap.size) : ∀ w', (∃ p : Bel w, w' = p.out) → w'.rangeAt b off cs := by
  rintro w' ⟨p, rfl⟩ j v hv
  exact p.cell (h j v hv) hb
theorem range_row {w : World} {b : Nat} {cs : List Value} {t : TypeId} (h : w.heap[b]? = some (.cells cs.toArray t (0, 0))) : w.rangeAt b 0 cs := fun j v hv => by
  rw [Nat.zero_add, cell_of_row w b j cs.toArray t (0, 0) h]
  simpa using hv

end Go.Proofs.Ytnbbebapfiocpaa

/- LruCounts. -/
namespace Go.Proofs.Ytnbbebapfiocpaa
open Go.RowKit

theorem inc_plain (g n : Nat) (h : g + n ≤ 281474976710656) : incN g n = ((g + n : Nat) : Int) := by
  induction n with
  | zero => rfl
  | succ n ih =>
    show wrap64 (incN g n + 1) = _
    rw [ih (by omega)]
    unfold wrap64
    omega
theorem w1_plain (x : Nat) (h : x ≤ 281474976710656) : wrap64 ((x : Int) + 1) = ((x + 1 : Nat) : Int) := by unfold wrap64; omega

set_option maxRecDepth 100000 in
set_option maxHeartbeats 8000000 in
theorem lawCounts_any (w : World) (p : Int) (v : Value) (n : Nat) (hv : Acts w v n) :
    Calls Try.prog 7 #[.int .i64 p, v] w fun e w' => e = .returned (.bool true) ∧ Below w.heap.size w w' := by
  have hn := hv.len
  obtain ⟨ao, cv, rfl⟩ := hv.shape
  have HV := hid hv
  clear hv
  by_cases hp : p < 1 ∨ 4096 < p
  · have HP := hid hp
    rcases hp with hp | hp
    all_goals
      try have hp2 : ¬ p < 1 := by omega
      go_enter Try.func7, Try.ntmps7
      go_wp2_with fail
      refine (inew_bad w p HP.out).mono ?_
      rintro e w1 ⟨rfl, hw1⟩
      subst hw1
      go_wp2_with fail
      refine (alive_any _).mono ?_
      rintro e w2 ⟨rfl, hb2⟩
      go_wp2
      go_ret
      exact ⟨rfl, hb2⟩
  obtain ⟨most, rfl⟩ : ∃ M : Nat, p = (M : Int) := ⟨p.toNat, by omega⟩
  have m1 : 1 ≤ most := by omega
  have m2 : most ≤ 4096 := by omega
  clear hp
  go_enter Try.func7, Try.ntmps7
  go_wp2_with fail
  refine (inew_mo w most m1 m2).mono ?_
  rintro e w1 ⟨bm, F1, rfl, q1, b1⟩
  have HQ1 := hid q1
  have HB1 := hid b1
  clear q1 b1
  go_wp2
  go_loopw [40, 7, 8, 9, 10] (fun vi va vb vc vd wr => ∃ (j md dr hh mm gg mo ak : Nat) (L : List (Int × Int)) (F : List Nat), j ≤ n ∧ vi = .int .i64 j ∧ va = .int .i64 md ∧ vb = .int .i64 dr ∧ vc = .int .i64 hh ∧ vd = .int .i64 ak ∧ Hid (iMo wr w.heap.size bm mo L hh mm gg F) ∧ Hid (Below w.heap.size w wr) ∧ Hid (gg + L.length + dr = md) ∧ md ≤ j ∧ ak ≤ j ∧ Hid (hh + mm = ak)) (fun vi _ _ _ _ _ => n - (intOf vi).toNat)
  case atStart => exact ⟨0, 0, 0, 0, 0, 0, most, 0, [], F1, by omega, rfl, rfl, rfl, rfl, rfl, HQ1, HB1, rfl, by omega, by omega, rfl⟩
  case round =>
    clear HQ1 HB1
    obtain ⟨j, md, dr, hh, mm, gg, mo, ak, L, F, hj, rfl, rfl, rfl, rfl, rfl, HQ, HB, HSM, hmd, hak, HAK⟩ := hrel
    have hb1 : hh ≤ ak := by have := HAK.out; omega
    have hb2 : mm ≤ ak := by have := HAK.out; omega
    have hb3 : gg ≤ md := by have := HSM.out; omega
    have hb4 : dr ≤ md := by have := HSM.out; omega
    by_cases hlt : j < n
    · obtain ⟨g, o, rfl, d, k, x, vp, ks, hrg, hps, hk1, hk2, hv1⟩ := HV.out.at j hlt
      have HRG := hid (hrg _ HB.out)
      have HK1 := hid hk1
      have HPS := hid hps
      obtain ⟨z, s⟩ := zero_of_info (P := Try.prog) (t := 37) (v := .agg #[.int .i64 0, .int .i64 0, .int .i64 0, .slice none 0 0]) (n := 4) (by kernel_rfl)
      have HS := hid s
      have HV1 := hid hv1
      obtain ⟨an, cn, hvp⟩ := (hps _ HB.out).shape
      subst hvp
      clear hrg hps s hv1 hk1 hk2
      go_upto_region 8 with (first
        | (refine wpList_load_mid rfl 37 (.tmp 42) rfl g (o + j * 4) rfl [.int .i64 d, .int .i64 k, .int .i64 x, .slice an ks.length cn] _ HRG.out Try.underlying37 rfl HS.out ?_)
        | (refine al_row rfl 37 rfl _ z ?_; refine st_new rfl 37 (.tmp 12) (.tmp 43) rfl [.int .i64 d, .int .i64 k, .int .i64 x, .slice an ks.length cn] rfl rfl _ _ HS.out rfl HV1.out ?_))
      try simp only [Act.put, List.setIfInBounds_toArray, List.set_cons_succ, List.set_cons_zero]
      have HB2 := hid (HB.out.alloc HB.out.size (.cells [.int .i64 d, .int .i64 k, .int .i64 x, .slice an ks.length cn].toArray 37))
      have HQ2 := hid (HQ.out.below (below_walk wr (.cells [.int .i64 d, .int .i64 k, .int .i64 x, .slice an ks.length cn].toArray 37)))
      have HN2 := hid (hp_new wr (.cells [.int .i64 d, .int .i64 k, .int .i64 x, .slice an ks.length cn].toArray 37))
      have d0 := row_cell HN2.out 0 (by simp)
      have d1 := row_cell HN2.out 1 (by simp)
      have d2 := row_cell HN2.out 2 (by simp)
      have d3 := row_cell HN2.out 3 (by simp)
      simp only [List.getElem_cons_zero, List.getElem_cons_succ] at d0 d1 d2 d3
      generalize wr.alloc (.cells [.int .i64 d, .int .i64 k, .int .i64 x, .slice an ks.length cn].toArray 37) = w2 at HB2 HQ2 HN2 d0 d1 d2 d3 ⊢
      generalize wr.heap.size = b2 at HN2 d0 d1 d2 d3 ⊢
      clear z HS HV1 HRG HQ HB
      have HKD := hid HQ2.out.kd
      have HLE := hid HQ2.out.le
      have HONE := hid HQ2.out.one
      have HBIG := hid HQ2.out.big
      rcases kind6 d with hK | hK | hK | hK | hK | hK
      · as_aux_lemma =>
          have HG := hid (iget_mo HQ2.out k HK1.out)
          obtain ⟨hh1, HH1, hx1⟩ : ∃ h1 : Nat, Hid (h1 = hh + 1) ∧ wrap64 ((hh : Int) + 1) = (h1 : Int) := ⟨hh + 1, rfl, w1_plain hh (by omega)⟩
          obtain ⟨mm1, HM1, hx2⟩ : ∃ h1 : Nat, Hid (h1 = mm + 1) ∧ wrap64 ((mm : Int) + 1) = (h1 : Int) := ⟨mm + 1, rfl, w1_plain mm (by omega)⟩
          obtain ⟨ak1, HA1, hx3⟩ : ∃ h1 : Nat, Hid (h1 = ak + 1) ∧ wrap64 ((ak : Int) + 1) = (h1 : Int) := ⟨ak + 1, rfl, w1_plain ak (by omega)⟩
          have HGL := hid (get_len HKD.out k)
          cases hlk : lookP L k with
          | none =>
            rw [hlk] at HG
            simp only [Option.isSome_none, Option.getD_none, Bool.false_eq_true, if_false] at HG
            go_wp2_with fail
            refine HG.out.mono ?_
            rintro e w3 ⟨rfl, F3, q3, s3⟩
            rw [hx2] at q3
            have HQ3 := hid q3
            have HB3 := hid (HB2.out.trans (HQ2.out.low s3))
            clear q3 s3 HG d0 d1 d2 d3 hlk
            go_wp2
            exact ⟨⟨j + 1, md, dr, hh, mm1, gg, mo, ak1, _, F3, hlt, by simp, rfl, rfl, rfl, by rw [HA1.out]; simp, HQ3, HB3, by rw [HGL.out]; exact HSM, by omega, by rw [HA1.out]; omega, hid (by rw [HM1.out, HA1.out, ← HAK.out]; omega)⟩, by simp [intOf]; omega⟩
          | some y =>
            rw [hlk] at HG
            simp only [Option.isSome_some, Option.getD_some, if_true] at HG
            go_wp2_with fail
            refine HG.out.mono ?_
            rintro e w3 ⟨rfl, F3, q3, s3⟩
            rw [hx1] at q3
            have HQ3 := hid q3
            have HB3 := hid (HB2.out.trans (HQ2.out.low s3))
            clear q3 s3 HG d0 d1 d2 d3 hlk
            go_wp2
            exact ⟨⟨j + 1, md, dr, hh1, mm, gg, mo, ak1, _, F3, hlt, by simp, rfl, rfl, by rw [HH1.out]; simp, by rw [HA1.out]; simp, HQ3, HB3, by rw [HGL.out]; exact HSM, by omega, by rw [HA1.out]; omega, hid (by rw [HH1.out, HA1.out, ← HAK.out]; omega)⟩, by simp [intOf]; omega⟩
      · as_aux_lemma =>
          go_wp2
          exact ⟨⟨j + 1, md, dr, hh, mm, gg, mo, ak, L, F, hlt, by simp, rfl, rfl, rfl, rfl, HQ2, HB2, HSM, by omega, by omega, HAK⟩, by simp [intOf]; omega⟩
      · as_aux_lemma =>
          have HG := hid (ilook_mo HQ2.out k HK1.out)
          obtain ⟨md1, HM1, hx1⟩ : ∃ h1 : Nat, Hid (h1 = md + 1) ∧ wrap64 ((md : Int) + 1) = (h1 : Int) := ⟨md + 1, rfl, w1_plain md (by omega)⟩
          have HX2 := hid (w1_plain gg (by omega))
          cases hlk : lookP L k with
          | none =>
            rw [hlk] at HG
            simp only [Option.isSome_none, Option.getD_none] at HG
            have HPL := hid (put_miss_len HONE.out HLE.out x hlk)
            go_wp2_with fail
            refine HG.out.mono ?_
            rintro e w3 ⟨rfl, b3⟩
            have HQ3 := hid (HQ2.out.below b3)
            have HB3 := hid (HB2.out.trans (b3.mono HB2.out.size))
            have HN3 := hid ((b3.block b2 (hp_lt HN2.out)).trans HN2.out)
            clear b3 HG d0 d1 d2 d3 hlk
            have d1 := row_cell HN3.out 1 (by simp)
            have d2 := row_cell HN3.out 2 (by simp)
            simp only [List.getElem_cons_zero, List.getElem_cons_succ] at d1 d2
            have HP := hid (iput_mo HQ3.out k HK1.out x)
            obtain ⟨gg', HGG, HGS⟩ : ∃ gg' : Nat, Hid ((if (wentP mo L k).isSome then wrap64 ((gg : Int) + 1) else (gg : Int)) = (gg' : Int)) ∧ Hid (gg' + (putP mo L k x).length = gg + L.length + 1) := by
              have := HPL.out
              cases hw : (wentP mo L k).isSome with
              | true => rw [hw] at this; exact ⟨gg + 1, hid (by simpa using HX2.out), hid (by simp at this; omega)⟩
              | false => rw [hw] at this; exact ⟨gg, hid (by simp), hid (by simp at this; omega)⟩
            rw [HGG.out] at HP
            go_wp2_with fail
            refine HP.out.mono ?_
            rintro e w4 ⟨rfl, F4, q4, s4⟩
            have HQ4 := hid q4
            have HB4 := hid (HB3.out.trans (HQ3.out.low s4))
            clear q4 s4 HP d1 d2
            go_wp2
            exact ⟨⟨j + 1, md1, dr, hh, mm, gg', mo, ak, _, F4, hlt, by simp, by rw [HM1.out]; simp, rfl, rfl, rfl, HQ4, HB4, hid (by have := HGS.out; have := HSM.out; have := HM1.out; omega), by rw [HM1.out]; omega, by omega, HAK⟩, by simp [intOf]; omega⟩
          | some y =>
            rw [hlk] at HG
            simp only [Option.isSome_some, Option.getD_some] at HG
            have HPL := hid (put_hit_len HKD.out HLE.out x hlk)
            have HWN := hid (went_hit HKD.out HLE.out hlk)
            go_wp2_with fail
            refine HG.out.mono ?_
            rintro e w3 ⟨rfl, b3⟩
            have HQ3 := hid (HQ2.out.below b3)
            have HB3 := hid (HB2.out.trans (b3.mono HB2.out.size))
            have HN3 := hid ((b3.block b2 (hp_lt HN2.out)).trans HN2.out)
            clear b3 HG d0 d1 d2 d3 hlk
            have d1 := row_cell HN3.out 1 (by simp)
            have d2 := row_cell HN3.out 2 (by simp)
            simp only [List.getElem_cons_zero, List.getElem_cons_succ] at d1 d2
            have HP := hid (iput_mo HQ3.out k HK1.out x)
            rw [HWN.out] at HP
            simp only [Option.isSome_none, Bool.false_eq_true, if_false] at HP
            go_wp2_with fail
            refine HP.out.mono ?_
            rintro e w4 ⟨rfl, F4, q4, s4⟩
            have HQ4 := hid q4
            have HB4 := hid (HB3.out.trans (HQ3.out.low s4))
            clear q4 s4 HP d1 d2
            go_wp2
            exact ⟨⟨j + 1, md, dr, hh, mm, gg, mo, ak, _, F4, hlt, by simp, rfl, rfl, rfl, rfl, HQ4, HB4, by rw [HPL.out]; exact HSM, by omega, by omega, HAK⟩, by simp [intOf]; omega⟩
      · as_aux_lemma =>
          have HG := hid (idrop_mo HQ2.out _ ks (fun W hb => HPS.out W (HB2.out.trans hb)))
          have HDL := hid (dropP_len L ks)
          obtain ⟨c, HC⟩ : ∃ c : Nat, Hid (L.length - (dropP L ks).length = c) := ⟨_, rfl⟩
          rw [HC.out] at HG
          have hc2 : c ≤ L.length := by rw [← HC.out]; omega
          have hL4 : L.length ≤ 4096 := by have := HLE.out; have := HBIG.out; omega
          obtain ⟨dr1, HD1, hx1⟩ : ∃ h1 : Nat, Hid (h1 = dr + c) ∧ wrap64 ((dr : Int) + (c : Int)) = (h1 : Int) := ⟨dr + c, rfl, by unfold wrap64; omega⟩
          go_wp2_with fail
          refine HG.out.mono ?_
          rintro e w3 ⟨rfl, F3, q3, s3⟩
          have HQ3 := hid q3
          have HB3 := hid (HB2.out.trans (HQ2.out.low s3))
          clear q3 s3 HG d0 d1 d2 d3
          go_wp2
          exact ⟨⟨j + 1, md, dr1, hh, mm, gg, mo, ak, _, F3, hlt, by simp, rfl, by rw [HD1.out]; simp, rfl, rfl, HQ3, HB3, hid (by have := HC.out; have := HDL.out; have := HD1.out; have := HSM.out; omega), by omega, by omega, HAK⟩, by simp [intOf]; omega⟩
      · as_aux_lemma =>
          by_cases hxr : x < 1 ∨ 4096 < x
          · have HG := hid (iresize_bad HQ2.out x hxr)
            clear hxr
            go_wp2_with fail
            refine HG.out.mono ?_
            rintro e w3 ⟨rfl, hw3⟩
            subst hw3
            go_wp2
            exact ⟨⟨j + 1, md, dr, hh, mm, gg, mo, ak, L, F, hlt, by simp, rfl, rfl, rfl, rfl, HQ2, HB2, HSM, by omega, by omega, HAK⟩, by simp [intOf]; omega⟩
          · obtain ⟨P, rfl⟩ : ∃ M : Nat, x = (M : Int) := ⟨x.toNat, by omega⟩
            have HG := hid (iresize_mo HQ2.out P (by omega) (by omega))
            obtain ⟨gg1, HG1⟩ : ∃ h1 : Nat, Hid (h1 = gg + (L.length - P)) := ⟨_, rfl⟩
            rw [inc_plain gg (L.length - P) (by have := HSM.out; omega), ← HG1.out] at HG
            clear hxr
            go_wp2_with fail
            refine HG.out.mono ?_
            rintro e w3 ⟨vv, rfl, _, F3, q3, s3⟩
            have HQ3 := hid q3
            have HB3 := hid (HB2.out.trans (HQ2.out.low s3))
            clear q3 s3 HG d0 d1 d2 d3
            go_wp2
            exact ⟨⟨j + 1, md, dr, hh, mm, gg1, P, ak, _, F3, hlt, by simp, rfl, rfl, rfl, rfl, HQ3, HB3, hid (by rw [List.length_take]; have := HG1.out; have := HSM.out; omega), by omega, by omega, HAK⟩, by simp [intOf]; omega⟩
      · as_aux_lemma =>
          go_wp2
          exact ⟨⟨j + 1, md, dr, hh, mm, gg, mo, ak, L, F, hlt, by simp, rfl, rfl, rfl, rfl, HQ2, HB2, HSM, by omega, by omega, HAK⟩, by simp [intOf]; omega⟩
    · as_aux_lemma =>
        have HU := hid (iuses_mo HQ.out)
        go_wp2_with fail
        refine HU.out.mono ?_
        rintro e w4 ⟨rfl, b4⟩
        have HQ4 := hid (HQ.out.below b4)
        have HB4 := hid (HB.out.trans (b4.mono HB.out.size))
        clear b4 HU HQ HB
        obtain ⟨z3, s3⟩ := zero_of_info (P := Try.prog) (t := 29) (v := .agg #[.int .i64 0, .int .i64 0, .int .i64 0]) (n := 3) (by kernel_rfl)
        have HS := hid s3
        rename_i Kx hKx
        refine hKx _ _ ?_
        clear hKx
        refine al_row (by rfl) 29 (by rfl) _ z3 ?_
        refine st_new (by rfl) 29 (.tmp 17) (.tmp 98) (by rfl) [.int .i64 hh, .int .i64 mm, .int .i64 gg] (by rfl) (by rfl) _ _ HS.out rfl (by simp [Value.oneCell']) ?_
        have HB5 := hid (HB4.out.alloc HB4.out.size (.cells [.int .i64 hh, .int .i64 mm, .int .i64 gg].toArray 29))
        have HQ5 := hid (HQ4.out.below (below_walk w4 (.cells [.int .i64 hh, .int .i64 mm, .int .i64 gg].toArray 29)))
        have HN5 := hid (hp_new w4 (.cells [.int .i64 hh, .int .i64 mm, .int .i64 gg].toArray 29))
        have HL5 := hid (hp_lt HN5.out)
        have d0 := row_cell HN5.out 0 (by simp)
        have d1 := row_cell HN5.out 1 (by simp)
        have d2 := row_cell HN5.out 2 (by simp)
        simp only [List.getElem_cons_zero, List.getElem_cons_succ] at d0 d1 d2
        generalize w4.alloc (.cells [.int .i64 hh, .int .i64 mm, .int .i64 gg].toArray 29) = w5 at HB5 HQ5 HN5 HL5 d0 d1 d2 ⊢
        generalize w4.heap.size = b5 at HN5 HL5 d0 d1 d2 ⊢
        have e0 := fun p : Bel w5 => p.cell d0 HL5.out
        have e1 := fun p : Bel w5 => p.cell d1 HL5.out
        have e2 := fun p : Bel w5 => p.cell d2 HL5.out
        have ib : Nonempty (Bel w5) := bel_some w5
        have HLE := hid HQ5.out.le
        obtain ⟨len, HLL⟩ : ∃ len, Hid (L.length = len) := ⟨_, rfl⟩
        rw [HLL.out] at HSM HLE
        have HLN : Hid (∀ p : Bel w5, Calls Try.prog 18 #[pt bm] p.out fun e w' => e = .returned (.int .i64 (len : Int)) ∧ w' = p.out) := hid (fun p => by have h := ilen_mo (HQ5.out.below p.bel); rw [HLL.out] at h; exact h)
        have HBG := hid HQ5.out.big
        have hx4 : (gg : Int) + (len : Int) + (dr : Int) = (md : Int) := by have := HSM.out; omega
        have hx5 : (hh : Int) + (mm : Int) = (ak : Int) := by have := HAK.out; omega
        clear d0 d1 d2 z3 HS HQ4 HB4
        go_upto_region 25 with fail
        try simp only [Act.put, List.setIfInBounds_toArray, List.set_cons_succ, List.set_cons_zero]
        refine wp_region_quiet_bel (by kernel_rfl) (by kernel_rfl) ?_
        repeat go_big_quiet_step (first | (go_at_call 18; exact bel_same (HLN.out _)) | (go_at_call 11; exact bel_of (alive_any _)))
        refine wpQuiet_nil ?_
        rintro w6 ⟨⟨w6', hb6⟩, hw6⟩
        obtain rfl : w6 = w6' := hw6
        have HB6 := hid (HB5.out.trans (hb6.mono HB5.out.size))
        clear hb6 ib e0 e1 e2 HLN
        go_wp2
        go_ret
        exact ⟨rfl, HB6.out⟩

end Go.Proofs.Ytnbbebapfiocpaa
