/-
  The writer's pass over a message.
-/
import Derived.Test.YtlfdmbfbfadifaaGreatDoorYl
import Derived.Test.YtlfdmbfbfadifaaGreatDoorWp
namespace Go.Proofs.YtlfdmbfbfadifaaGreatDoor
open Go.RowKit

/-- The state of the pass: the message in the block g, the writer in the block k; nothing that is older than w0 has changed, and since w1 nothing but the writer and bytes. -/
def WSt (w0 w1 : World) (g k : Nat) (m : MM) (bs : List UInt8) (W : World) : Prop := Below w0.heap.size w0 W ∧ BlkM W g m ∧ g ≠ k ∧ WrAt w0.heap.size k bs W ∧ Lib.OthersKept 5 (some k) w1 W
theorem WSt.drew {w0 w1 : World} {g k : Nat} {m : MM} {bs : List UInt8} {W : World} (h : WSt w0 w1 g k m bs W) : WSt w0 w1 g k m bs W.drew := ⟨below_drew h.1, h.2.1.drew, h.2.2.1, h.2.2.2.1.drew, h.2.2.2.2.drew⟩
theorem WSt.below {w0 w1 : World} {g k : Nat} {m : MM} {bs : List UInt8} {W W' : World} (h : WSt w0 w1 g k m bs W) (hB : Below W.heap.size W W') : WSt w0 w1 g k m bs W' :=
  ⟨h.1.trans (hB.mono h.1.size), h.2.1.below hB h.2.1.lt, h.2.2.1, h.2.2.2.1.below hB, h.2.2.2.2.trans fun j _ hj _ _ => (hB.block j (Array.getElem?_eq_some_iff.1 hj).1).trans hj⟩
theorem WSt.blk {w0 w1 : World} {g k : Nat} {m : MM} {bs : List UInt8} {W : World} (h : WSt w0 w1 g k m bs W) : ∃ cs t, W.heap[g]? = some (.cells cs t (0, 0)) ∧ g ≠ k ∧ t ≠ 5 := ⟨_, _, h.2.1, h.2.2.1, by decide⟩
theorem WSt.next {w0 w1 : World} {g k : Nat} {m : MM} {bs x : List UInt8} {W W' : World} (h : WSt w0 w1 g k m bs W) (h1 : WrAt w0.heap.size k (bs ++ x) W') (h2 : Wrote w0.heap.size k W W') : WSt w0 w1 g k m (bs ++ x) W' :=
  ⟨h.1.trans h2.1, h2.2 g _ h.2.1 (fun e => h.2.2.1 (by injection e)) (fun c fz hc => (show (30 : TypeId) ≠ 5 by decide) (by injection hc)), h.2.2.1, h1, h.2.2.2.2.trans h2.2⟩
theorem WSt.base {w0 w1 : World} {g k : Nat} {m : MM} {bs : List UInt8} {W : World} (h : WSt w0 w1 g k m bs W) : WSt w0 W g k m bs W := ⟨h.1, h.2.1, h.2.2.1, h.2.2.2.1, Lib.OthersKept.refl _ _ _⟩

theorem wF_0 (w0 w1 : World) (g k : Nat) (m : MM) (bs : List UInt8) (W : World) (_hm : inM m) (_hr : RowM w0 m) (_g0 : G w0) (hf : 0 ≤ m.fi ∧ m.fi ≤ 4294967294) (h : WSt w0 w1 g k m bs W) (hlen : bs.length ≤ 700000) :
    Calls Tryz.prog 38 #[.iface 49 (.pointer (some ⟨k, 0, none⟩)), .pointer (some ⟨g, 0, none⟩), .int .i64 0] W fun e W' => e = .returned (.tuple #[]) ∧ WSt w0 w1 g k m (bs ++ encF m 0) W' :=
  pf_0 (nilW_number k) (metW_number k) (fun args W => cfW_number W args) g (WSt w0 w1 g k m bs) (WSt w0 w1 g k m (bs ++ encF m 0)) (fun _ h => h.drew)
    (fun W h => (wNumber w0.heap.size k bs g 2 m.fi 4 W (by omega) ⟨by omega, by omega⟩ ⟨by omega, by omega⟩ h.2.2.2.1 (by omega) h.1.size (h.2.1.cell 2)).mono fun _ _ ⟨e1, e2, e3⟩ => ⟨e1, h.next e2 e3⟩) W h
theorem wF_1 (w0 w1 : World) (g k : Nat) (m : MM) (bs : List UInt8) (W : World) (_hm : inM m) (_hr : RowM w0 m) (_g0 : G w0) (hf : 0 ≤ m.nf ∧ m.nf ≤ 4294967294) (h : WSt w0 w1 g k m bs W) (hlen : bs.length ≤ 700000) :
    Calls Tryz.prog 38 #[.iface 49 (.pointer (some ⟨k, 0, none⟩)), .pointer (some ⟨g, 0, none⟩), .int .i64 1] W fun e W' => e = .returned (.tuple #[]) ∧ WSt w0 w1 g k m (bs ++ encF m 1) W' :=
  pf_1 (nilW_number k) (metW_number k) (fun args W => cfW_number W args) g (WSt w0 w1 g k m bs) (WSt w0 w1 g k m (bs ++ encF m 1)) (fun _ h => h.drew)
    (fun W h => (wNumber w0.heap.size k bs g 3 m.nf 4 W (by omega) ⟨by omega, by omega⟩ ⟨by omega, by omega⟩ h.2.2.2.1 (by omega) h.1.size (h.2.1.cell 3)).mono fun _ _ ⟨e1, e2, e3⟩ => ⟨e1, h.next e2 e3⟩) W h
theorem wF_2 (w0 w1 : World) (g k : Nat) (m : MM) (bs : List UInt8) (W : World) (_hm : inM m) (_hr : RowM w0 m) (_g0 : G w0) (hf : 0 ≤ m.af ∧ m.af ≤ 4294967295) (h : WSt w0 w1 g k m bs W) (hlen : bs.length ≤ 700000) :
    Calls Tryz.prog 38 #[.iface 49 (.pointer (some ⟨k, 0, none⟩)), .pointer (some ⟨g, 0, none⟩), .int .i64 2] W fun e W' => e = .returned (.tuple #[]) ∧ WSt w0 w1 g k m (bs ++ encF m 2) W' :=
  pf_2 (nilW_number k) (metW_number k) (fun args W => cfW_number W args) g (WSt w0 w1 g k m bs) (WSt w0 w1 g k m (bs ++ encF m 2)) (fun _ h => h.drew)
    (fun W h => (wNumber w0.heap.size k bs g 4 m.af 4 W (by omega) ⟨by omega, by omega⟩ ⟨by omega, by omega⟩ h.2.2.2.1 (by omega) h.1.size (h.2.1.cell 4)).mono fun _ _ ⟨e1, e2, e3⟩ => ⟨e1, h.next e2 e3⟩) W h
theorem wF_3 (w0 w1 : World) (g k : Nat) (m : MM) (bs : List UInt8) (W : World) (_hm : inM m) (_hr : RowM w0 m) (_g0 : G w0) (hf : 0 ≤ m.ot ∧ m.ot ≤ 65534) (h : WSt w0 w1 g k m bs W) (hlen : bs.length ≤ 700000) :
    Calls Tryz.prog 38 #[.iface 49 (.pointer (some ⟨k, 0, none⟩)), .pointer (some ⟨g, 0, none⟩), .int .i64 3] W fun e W' => e = .returned (.tuple #[]) ∧ WSt w0 w1 g k m (bs ++ encF m 3) W' :=
  pf_3 (nilW_number k) (metW_number k) (fun args W => cfW_number W args) g (WSt w0 w1 g k m bs) (WSt w0 w1 g k m (bs ++ encF m 3)) (fun _ h => h.drew)
    (fun W h => (wNumber w0.heap.size k bs g 5 m.ot 2 W (by omega) ⟨by omega, by omega⟩ ⟨by omega, by omega⟩ h.2.2.2.1 (by omega) h.1.size (h.2.1.cell 5)).mono fun _ _ ⟨e1, e2, e3⟩ => ⟨e1, h.next e2 e3⟩) W h
theorem wF_4 (w0 w1 : World) (g k : Nat) (m : MM) (bs : List UInt8) (W : World) (_hm : inM m) (_hr : RowM w0 m) (_g0 : G w0) (hf : 0 ≤ m.ms ∧ m.ms ≤ 4294967295) (h : WSt w0 w1 g k m bs W) (hlen : bs.length ≤ 700000) :
    Calls Tryz.prog 38 #[.iface 49 (.pointer (some ⟨k, 0, none⟩)), .pointer (some ⟨g, 0, none⟩), .int .i64 4] W fun e W' => e = .returned (.tuple #[]) ∧ WSt w0 w1 g k m (bs ++ encF m 4) W' :=
  pf_4 (nilW_number k) (metW_number k) (fun args W => cfW_number W args) g (WSt w0 w1 g k m bs) (WSt w0 w1 g k m (bs ++ encF m 4)) (fun _ h => h.drew)
    (fun W h => (wNumber w0.heap.size k bs g 6 m.ms 4 W (by omega) ⟨by omega, by omega⟩ ⟨by omega, by omega⟩ h.2.2.2.1 (by omega) h.1.size (h.2.1.cell 6)).mono fun _ _ ⟨e1, e2, e3⟩ => ⟨e1, h.next e2 e3⟩) W h
theorem wF_5 (w0 w1 : World) (g k : Nat) (m : MM) (bs : List UInt8) (W : World) (_hm : inM m) (_hr : RowM w0 m) (_g0 : G w0) (hf : m.ve.length ≤ 64) (h : WSt w0 w1 g k m bs W) (hlen : bs.length ≤ 700000) :
    Calls Tryz.prog 38 #[.iface 49 (.pointer (some ⟨k, 0, none⟩)), .pointer (some ⟨g, 0, none⟩), .int .i64 5] W fun e W' => e = .returned (.tuple #[]) ∧ WSt w0 w1 g k m (bs ++ encF m 5) W' :=
  pf_5 (nilW_text k) (metW_text k) (fun args W => cfW_text W args) g (WSt w0 w1 g k m bs) (WSt w0 w1 g k m (bs ++ encF m 5)) (fun _ h => h.drew)
    (fun W h => (wText w0.heap.size k bs g 7 m.ve W (by omega) h.2.2.2.1 (by omega) h.1.size (h.2.1.cell 7)).mono fun _ _ ⟨e1, e2, e3⟩ => ⟨e1, h.next e2 e3⟩) W h
theorem wF_6 (w0 w1 : World) (g k : Nat) (m : MM) (bs : List UInt8) (W : World) (_hm : inM m) (_hr : RowM w0 m) (_g0 : G w0) (hf : m.us.length ≤ 32) (h : WSt w0 w1 g k m bs W) (hlen : bs.length ≤ 700000) :
    Calls Tryz.prog 38 #[.iface 49 (.pointer (some ⟨k, 0, none⟩)), .pointer (some ⟨g, 0, none⟩), .int .i64 6] W fun e W' => e = .returned (.tuple #[]) ∧ WSt w0 w1 g k m (bs ++ encF m 6) W' :=
  pf_6 (nilW_text k) (metW_text k) (fun args W => cfW_text W args) g (WSt w0 w1 g k m bs) (WSt w0 w1 g k m (bs ++ encF m 6)) (fun _ h => h.drew)
    (fun W h => (wText w0.heap.size k bs g 8 m.us W (by omega) h.2.2.2.1 (by omega) h.1.size (h.2.1.cell 8)).mono fun _ _ ⟨e1, e2, e3⟩ => ⟨e1, h.next e2 e3⟩) W h
theorem wF_7 (w0 w1 : World) (g k : Nat) (m : MM) (bs : List UInt8) (W : World) (_hm : inM m) (_hr : RowM w0 m) (_g0 : G w0) (hf : m.ac.length ≤ 1024) (h : WSt w0 w1 g k m bs W) (hlen : bs.length ≤ 700000) :
    Calls Tryz.prog 38 #[.iface 49 (.pointer (some ⟨k, 0, none⟩)), .pointer (some ⟨g, 0, none⟩), .int .i64 7] W fun e W' => e = .returned (.tuple #[]) ∧ WSt w0 w1 g k m (bs ++ encF m 7) W' :=
  pf_7 (nilW_text k) (metW_text k) (fun args W => cfW_text W args) g (WSt w0 w1 g k m bs) (WSt w0 w1 g k m (bs ++ encF m 7)) (fun _ h => h.drew)
    (fun W h => (wText w0.heap.size k bs g 9 m.ac W (by omega) h.2.2.2.1 (by omega) h.1.size (h.2.1.cell 9)).mono fun _ _ ⟨e1, e2, e3⟩ => ⟨e1, h.next e2 e3⟩) W h
theorem wF_8 (w0 w1 : World) (g k : Nat) (m : MM) (bs : List UInt8) (W : World) (_hm : inM m) (hr : RowM w0 m) (_g0 : G w0) (hf : m.nl.length ≤ 16 ∧ ∀ l ∈ m.nl, l.length ≤ 64) (h : WSt w0 w1 g k m bs W) (hlen : bs.length ≤ 700000) :
    Calls Tryz.prog 38 #[.iface 49 (.pointer (some ⟨k, 0, none⟩)), .pointer (some ⟨g, 0, none⟩), .int .i64 8] W fun e W' => e = .returned (.tuple #[]) ∧ WSt w0 w1 g k m (bs ++ encF m 8) W' :=
  pf_8 (nilW_names k) (metW_names k) (fun args W => cfW_names W args) g (WSt w0 w1 g k m bs) (WSt w0 w1 g k m (bs ++ encF m 8)) (fun _ h => h.drew)
    (fun W h => (wNames w0.heap.size k bs g 10 m.nv m.nl w0 W hf hr.1 rfl h.1 h.2.2.2.1 (by omega) (h.2.1.cell 10) h.blk).mono fun _ _ ⟨e1, e2, e3⟩ => ⟨e1, h.next e2 e3⟩) W h
theorem wF_9 (w0 w1 : World) (g k : Nat) (m : MM) (bs : List UInt8) (W : World) (_hm : inM m) (hr : RowM w0 m) (_g0 : G w0) (hf : m.ql.length ≤ 16 ∧ ∀ q ∈ m.ql, qidB q = true) (h : WSt w0 w1 g k m bs W) (hlen : bs.length ≤ 700000) :
    Calls Tryz.prog 38 #[.iface 49 (.pointer (some ⟨k, 0, none⟩)), .pointer (some ⟨g, 0, none⟩), .int .i64 9] W fun e W' => e = .returned (.tuple #[]) ∧ WSt w0 w1 g k m (bs ++ encF m 9) W' :=
  pf_9 (nilW_qids k) (metW_qids k) (fun args W => cfW_qids W args) g (WSt w0 w1 g k m bs) (WSt w0 w1 g k m (bs ++ encF m 9)) (fun _ h => h.drew)
    (fun W h => (wQids w0.heap.size k bs g 11 m.qv m.ql w0 W hf hr.2 rfl h.1 h.2.2.2.1 (by omega) (h.2.1.cell 11) h.blk).mono fun _ _ ⟨e1, e2, e3⟩ => ⟨e1, h.next e2 e3⟩) W h
theorem wF_10 (w0 w1 : World) (g k : Nat) (m : MM) (bs : List UInt8) (W : World) (_hm : inM m) (_hr : RowM w0 m) (_g0 : G w0) (hf : qidB m.qd = true) (h : WSt w0 w1 g k m bs W) (hlen : bs.length ≤ 700000) :
    Calls Tryz.prog 38 #[.iface 49 (.pointer (some ⟨k, 0, none⟩)), .pointer (some ⟨g, 0, none⟩), .int .i64 10] W fun e W' => e = .returned (.tuple #[]) ∧ WSt w0 w1 g k m (bs ++ encF m 10) W' :=
  pf_10 g (WSt w0 w1 g k m bs) (WSt w0 w1 g k m (bs ++ encF m 10))
    (fun W h => (wPassQid w0.heap.size k bs g 12 m.qd W hf h.2.2.2.1 (by omega) h.1.size h.blk (h.2.1.cell 12) (h.2.1.cell 13) (h.2.1.cell 14)).mono fun _ _ ⟨e1, e2, e3⟩ => ⟨e1, h.next e2 e3⟩) W h
theorem wF_11 (w0 w1 : World) (g k : Nat) (m : MM) (bs : List UInt8) (W : World) (_hm : inM m) (_hr : RowM w0 m) (_g0 : G w0) (hf : 0 ≤ m.io ∧ m.io ≤ 8192) (h : WSt w0 w1 g k m bs W) (hlen : bs.length ≤ 700000) :
    Calls Tryz.prog 38 #[.iface 49 (.pointer (some ⟨k, 0, none⟩)), .pointer (some ⟨g, 0, none⟩), .int .i64 11] W fun e W' => e = .returned (.tuple #[]) ∧ WSt w0 w1 g k m (bs ++ encF m 11) W' :=
  pf_11 (nilW_number k) (metW_number k) (fun args W => cfW_number W args) g (WSt w0 w1 g k m bs) (WSt w0 w1 g k m (bs ++ encF m 11)) (fun _ h => h.drew)
    (fun W h => (wNumber w0.heap.size k bs g 15 m.io 4 W (by omega) ⟨by omega, by omega⟩ ⟨by omega, by omega⟩ h.2.2.2.1 (by omega) h.1.size (h.2.1.cell 15)).mono fun _ _ ⟨e1, e2, e3⟩ => ⟨e1, h.next e2 e3⟩) W h
theorem wF_12 (w0 w1 : World) (g k : Nat) (m : MM) (bs : List UInt8) (W : World) (_hm : inM m) (_hr : RowM w0 m) (_g0 : G w0) (hf : 0 ≤ m.mo ∧ m.mo ≤ 255) (h : WSt w0 w1 g k m bs W) (hlen : bs.length ≤ 700000) :
    Calls Tryz.prog 38 #[.iface 49 (.pointer (some ⟨k, 0, none⟩)), .pointer (some ⟨g, 0, none⟩), .int .i64 12] W fun e W' => e = .returned (.tuple #[]) ∧ WSt w0 w1 g k m (bs ++ encF m 12) W' :=
  pf_12 (nilW_number k) (metW_number k) (fun args W => cfW_number W args) g (WSt w0 w1 g k m bs) (WSt w0 w1 g k m (bs ++ encF m 12)) (fun _ h => h.drew)
    (fun W h => (wNumber w0.heap.size k bs g 16 m.mo 1 W (by omega) ⟨by omega, by omega⟩ ⟨by omega, by omega⟩ h.2.2.2.1 (by omega) h.1.size (h.2.1.cell 16)).mono fun _ _ ⟨e1, e2, e3⟩ => ⟨e1, h.next e2 e3⟩) W h
theorem wF_13 (w0 w1 : World) (g k : Nat) (m : MM) (bs : List UInt8) (W : World) (_hm : inM m) (_hr : RowM w0 m) (_g0 : G w0) (hf : 0 ≤ m.pe ∧ m.pe ≤ 4294967295) (h : WSt w0 w1 g k m bs W) (hlen : bs.length ≤ 700000) :
    Calls Tryz.prog 38 #[.iface 49 (.pointer (some ⟨k, 0, none⟩)), .pointer (some ⟨g, 0, none⟩), .int .i64 13] W fun e W' => e = .returned (.tuple #[]) ∧ WSt w0 w1 g k m (bs ++ encF m 13) W' :=
  pf_13 (nilW_number k) (metW_number k) (fun args W => cfW_number W args) g (WSt w0 w1 g k m bs) (WSt w0 w1 g k m (bs ++ encF m 13)) (fun _ h => h.drew)
    (fun W h => (wNumber w0.heap.size k bs g 17 m.pe 4 W (by omega) ⟨by omega, by omega⟩ ⟨by omega, by omega⟩ h.2.2.2.1 (by omega) h.1.size (h.2.1.cell 17)).mono fun _ _ ⟨e1, e2, e3⟩ => ⟨e1, h.next e2 e3⟩) W h
theorem wF_14 (w0 w1 : World) (g k : Nat) (m : MM) (bs : List UInt8) (W : World) (_hm : inM m) (_hr : RowM w0 m) (_g0 : G w0) (hf : m.na.length ≤ 64) (h : WSt w0 w1 g k m bs W) (hlen : bs.length ≤ 700000) :
    Calls Tryz.prog 38 #[.iface 49 (.pointer (some ⟨k, 0, none⟩)), .pointer (some ⟨g, 0, none⟩), .int .i64 14] W fun e W' => e = .returned (.tuple #[]) ∧ WSt w0 w1 g k m (bs ++ encF m 14) W' :=
  pf_14 (nilW_text k) (metW_text k) (fun args W => cfW_text W args) g (WSt w0 w1 g k m bs) (WSt w0 w1 g k m (bs ++ encF m 14)) (fun _ h => h.drew)
    (fun W h => (wText w0.heap.size k bs g 18 m.na W (by omega) h.2.2.2.1 (by omega) h.1.size (h.2.1.cell 18)).mono fun _ _ ⟨e1, e2, e3⟩ => ⟨e1, h.next e2 e3⟩) W h
theorem wF_15 (w0 w1 : World) (g k : Nat) (m : MM) (bs : List UInt8) (W : World) (_hm : inM m) (_hr : RowM w0 m) (_g0 : G w0) (hf : 0 ≤ m.os ∧ m.os ≤ 9007199254740991) (h : WSt w0 w1 g k m bs W) (hlen : bs.length ≤ 700000) :
    Calls Tryz.prog 38 #[.iface 49 (.pointer (some ⟨k, 0, none⟩)), .pointer (some ⟨g, 0, none⟩), .int .i64 15] W fun e W' => e = .returned (.tuple #[]) ∧ WSt w0 w1 g k m (bs ++ encF m 15) W' :=
  pf_15 (nilW_number k) (metW_number k) (fun args W => cfW_number W args) g (WSt w0 w1 g k m bs) (WSt w0 w1 g k m (bs ++ encF m 15)) (fun _ h => h.drew)
    (fun W h => (wNumber w0.heap.size k bs g 19 m.os 8 W (by omega) ⟨by omega, by omega⟩ ⟨by omega, by omega⟩ h.2.2.2.1 (by omega) h.1.size (h.2.1.cell 19)).mono fun _ _ ⟨e1, e2, e3⟩ => ⟨e1, h.next e2 e3⟩) W h
theorem wF_16 (w0 w1 : World) (g k : Nat) (m : MM) (bs : List UInt8) (W : World) (_hm : inM m) (_hr : RowM w0 m) (_g0 : G w0) (hf : 0 ≤ m.co ∧ m.co ≤ 8192) (h : WSt w0 w1 g k m bs W) (hlen : bs.length ≤ 700000) :
    Calls Tryz.prog 38 #[.iface 49 (.pointer (some ⟨k, 0, none⟩)), .pointer (some ⟨g, 0, none⟩), .int .i64 16] W fun e W' => e = .returned (.tuple #[]) ∧ WSt w0 w1 g k m (bs ++ encF m 16) W' :=
  pf_16 (nilW_number k) (metW_number k) (fun args W => cfW_number W args) g (WSt w0 w1 g k m bs) (WSt w0 w1 g k m (bs ++ encF m 16)) (fun _ h => h.drew)
    (fun W h => (wNumber w0.heap.size k bs g 20 m.co 4 W (by omega) ⟨by omega, by omega⟩ ⟨by omega, by omega⟩ h.2.2.2.1 (by omega) h.1.size (h.2.1.cell 20)).mono fun _ _ ⟨e1, e2, e3⟩ => ⟨e1, h.next e2 e3⟩) W h
theorem wF_17 (w0 w1 : World) (g k : Nat) (m : MM) (bs : List UInt8) (W : World) (_hm : inM m) (_hr : RowM w0 m) (_g0 : G w0) (hf : m.da.length ≤ 8168) (h : WSt w0 w1 g k m bs W) (hlen : bs.length ≤ 700000) :
    Calls Tryz.prog 38 #[.iface 49 (.pointer (some ⟨k, 0, none⟩)), .pointer (some ⟨g, 0, none⟩), .int .i64 17] W fun e W' => e = .returned (.tuple #[]) ∧ WSt w0 w1 g k m (bs ++ encF m 17) W' :=
  pf_17 (nilW_data k) (metW_data k) (fun args W => cfW_data W args) g (WSt w0 w1 g k m bs) (WSt w0 w1 g k m (bs ++ encF m 17)) (fun _ h => h.drew)
    (fun W h => (wData w0.heap.size k bs g 21 m.da W (by rw [mk_len]; omega) h.2.2.2.1 (by omega) h.1.size (h.2.1.cell 21) h.blk).mono fun _ _ ⟨e1, e2, e3⟩ => ⟨e1, h.next e2 e3⟩) W h
theorem wF_18 (w0 w1 : World) (g k : Nat) (m : MM) (bs : List UInt8) (W : World) (hm : inM m) (_hr : RowM w0 m) (g0 : G w0) (hf : checkR m.st = 0) (h : WSt w0 w1 g k m bs W) (hlen : bs.length ≤ 700000) :
    Calls Tryz.prog 38 #[.iface 49 (.pointer (some ⟨k, 0, none⟩)), .pointer (some ⟨g, 0, none⟩), .int .i64 18] W fun e W' => e = .returned (.tuple #[]) ∧ WSt w0 w1 g k m (bs ++ encF m 18) W' :=
  pf_18 (nilW_dir k) (metW_dir k) (fun args W => cfW_dir W args) g (WSt w0 w1 g k m bs) (WSt w0 w1 g k m (bs ++ encF m 18)) (fun _ h => h.drew)
    (fun W h => (wDir w0.heap.size k bs g m W hm.2.1 hm.2.2.1 hf (g0.below h.1) h.2.2.2.1 (by omega) h.1.size h.2.1).mono fun _ _ ⟨e1, e2, e3⟩ => ⟨e1, h.next e2 e3⟩) W h
theorem wF_19 (w0 w1 : World) (g k : Nat) (m : MM) (bs : List UInt8) (W : World) (_hm : inM m) (_hr : RowM w0 m) (_g0 : G w0) (hf : 1 ≤ m.er ∧ m.er ≤ 59) (h : WSt w0 w1 g k m bs W) (hlen : bs.length ≤ 700000) :
    Calls Tryz.prog 38 #[.iface 49 (.pointer (some ⟨k, 0, none⟩)), .pointer (some ⟨g, 0, none⟩), .int .i64 19] W fun e W' => e = .returned (.tuple #[]) ∧ WSt w0 w1 g k m (bs ++ encF m 19) W' :=
  pf_19 (nilW_errno k) (metW_errno k) (fun args W => cfW_errno W args) g (WSt w0 w1 g k m bs) (WSt w0 w1 g k m (bs ++ encF m 19)) (fun _ h => h.drew)
    (fun W h => (wErrno w0.heap.size k bs g 35 m.er W ⟨by omega, by omega⟩ h.2.2.2.1 (by omega) h.1.size (h.2.1.cell 35)).mono fun _ _ ⟨e1, e2, e3⟩ => ⟨e1, h.next e2 e3⟩) W h
theorem wF_20 (w0 w1 : World) (g k : Nat) (m : MM) (bs : List UInt8) (W : World) (_hm : inM m) (_hr : RowM w0 m) (_g0 : G w0) (hf : 0 ≤ m.lz ∧ m.lz ≤ 2) (h : WSt w0 w1 g k m bs W) (hlen : bs.length ≤ 700000) :
    Calls Tryz.prog 38 #[.iface 49 (.pointer (some ⟨k, 0, none⟩)), .pointer (some ⟨g, 0, none⟩), .int .i64 20] W fun e W' => e = .returned (.tuple #[]) ∧ WSt w0 w1 g k m (bs ++ encF m 20) W' :=
  pf_20 (nilW_number k) (metW_number k) (fun args W => cfW_number W args) g (WSt w0 w1 g k m bs) (WSt w0 w1 g k m (bs ++ encF m 20)) (fun _ h => h.drew)
    (fun W h => (wNumber w0.heap.size k bs g 36 m.lz 1 W (by omega) ⟨by omega, by omega⟩ ⟨by omega, by omega⟩ h.2.2.2.1 (by omega) h.1.size (h.2.1.cell 36)).mono fun _ _ ⟨e1, e2, e3⟩ => ⟨e1, h.next e2 e3⟩) W h
theorem wF_21 (w0 w1 : World) (g k : Nat) (m : MM) (bs : List UInt8) (W : World) (_hm : inM m) (_hr : RowM w0 m) (_g0 : G w0) (hf : 0 ≤ m.te ∧ m.te ≤ 1048576) (h : WSt w0 w1 g k m bs W) (hlen : bs.length ≤ 700000) :
    Calls Tryz.prog 38 #[.iface 49 (.pointer (some ⟨k, 0, none⟩)), .pointer (some ⟨g, 0, none⟩), .int .i64 21] W fun e W' => e = .returned (.tuple #[]) ∧ WSt w0 w1 g k m (bs ++ encF m 21) W' :=
  pf_21 (nilW_number k) (metW_number k) (fun args W => cfW_number W args) g (WSt w0 w1 g k m bs) (WSt w0 w1 g k m (bs ++ encF m 21)) (fun _ h => h.drew)
    (fun W h => (wNumber w0.heap.size k bs g 37 m.te 4 W (by omega) ⟨by omega, by omega⟩ ⟨by omega, by omega⟩ h.2.2.2.1 (by omega) h.1.size (h.2.1.cell 37)).mono fun _ _ ⟨e1, e2, e3⟩ => ⟨e1, h.next e2 e3⟩) W h
theorem wF_22 (w0 w1 : World) (g k : Nat) (m : MM) (bs : List UInt8) (W : World) (_hm : inM m) (_hr : RowM w0 m) (_g0 : G w0) (hf : m.se.length ≤ 64) (h : WSt w0 w1 g k m bs W) (hlen : bs.length ≤ 700000) :
    Calls Tryz.prog 38 #[.iface 49 (.pointer (some ⟨k, 0, none⟩)), .pointer (some ⟨g, 0, none⟩), .int .i64 22] W fun e W' => e = .returned (.tuple #[]) ∧ WSt w0 w1 g k m (bs ++ encF m 22) W' :=
  pf_22 (nilW_text k) (metW_text k) (fun args W => cfW_text W args) g (WSt w0 w1 g k m bs) (WSt w0 w1 g k m (bs ++ encF m 22)) (fun _ h => h.drew)
    (fun W h => (wText w0.heap.size k bs g 38 m.se W (by omega) h.2.2.2.1 (by omega) h.1.size (h.2.1.cell 38)).mono fun _ _ ⟨e1, e2, e3⟩ => ⟨e1, h.next e2 e3⟩) W h
theorem wField (w0 w1 : World) (g k : Nat) (m : MM) (bs : List UInt8) (f : Nat) (W : World) (hm : inM m) (hr : RowM w0 m) (g0 : G w0) (hf : f < 23) (hfit : Fit m f) (h : WSt w0 w1 g k m bs W) (hlen : bs.length ≤ 700000) :
    Calls Tryz.prog 38 #[.iface 49 (.pointer (some ⟨k, 0, none⟩)), .pointer (some ⟨g, 0, none⟩), .int .i64 (f : Int)] W fun e W' => e = .returned (.tuple #[]) ∧ WSt w0 w1 g k m (bs ++ encF m f) W' := by
  rcases k23 hf with rfl | rfl | rfl | rfl | rfl | rfl | rfl | rfl | rfl | rfl | rfl | rfl | rfl | rfl | rfl | rfl | rfl | rfl | rfl | rfl | rfl | rfl | rfl
  · exact wF_0 w0 w1 g k m bs W hm hr g0 hfit h hlen
  · exact wF_1 w0 w1 g k m bs W hm hr g0 hfit h hlen
  · exact wF_2 w0 w1 g k m bs W hm hr g0 hfit h hlen
  · exact wF_3 w0 w1 g k m bs W hm hr g0 hfit h hlen
  · exact wF_4 w0 w1 g k m bs W hm hr g0 hfit h hlen
  · exact wF_5 w0 w1 g k m bs W hm hr g0 hfit h hlen
  · exact wF_6 w0 w1 g k m bs W hm hr g0 hfit h hlen
  · exact wF_7 w0 w1 g k m bs W hm hr g0 hfit h hlen
  · exact wF_8 w0 w1 g k m bs W hm hr g0 hfit h hlen
  · exact wF_9 w0 w1 g k m bs W hm hr g0 hfit h hlen
  · exact wF_10 w0 w1 g k m bs W hm hr g0 hfit h hlen
  · exact wF_11 w0 w1 g k m bs W hm hr g0 hfit h hlen
  · exact wF_12 w0 w1 g k m bs W hm hr g0 hfit h hlen
  · exact wF_13 w0 w1 g k m bs W hm hr g0 hfit h hlen
  · exact wF_14 w0 w1 g k m bs W hm hr g0 hfit h hlen
  · exact wF_15 w0 w1 g k m bs W hm hr g0 hfit h hlen
  · exact wF_16 w0 w1 g k m bs W hm hr g0 hfit h hlen
  · exact wF_17 w0 w1 g k m bs W hm hr g0 hfit h hlen
  · exact wF_18 w0 w1 g k m bs W hm hr g0 hfit h hlen
  · exact wF_19 w0 w1 g k m bs W hm hr g0 hfit h hlen
  · exact wF_20 w0 w1 g k m bs W hm hr g0 hfit h hlen
  · exact wF_21 w0 w1 g k m bs W hm hr g0 hfit h hlen
  · exact wF_22 w0 w1 g k m bs W hm hr g0 hfit h hlen
end Go.Proofs.YtlfdmbfbfadifaaGreatDoor
