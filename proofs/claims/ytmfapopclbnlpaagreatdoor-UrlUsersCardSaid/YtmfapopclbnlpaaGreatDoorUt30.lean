import Derived.Test.YtmfapopclbnlpaaGreatDoorProg
import Derived.ProofKit
import Derived.Test.YtmfapopclbnlpaaGreatDoorUt6
import Derived.Test.YtmfapopclbnlpaaGreatDoorUt18
import Derived.Test.YtmfapopclbnlpaaGreatDoorUt19
import Derived.Test.YtmfapopclbnlpaaGreatDoorUt20
import Derived.Test.YtmfapopclbnlpaaGreatDoorUt25
import Derived.Test.YtmfapopclbnlpaaGreatDoorUt28
import Derived.Test.YtmfapopclbnlpaaGreatDoorUt29
set_option linter.unusedVariables false
set_option linter.unusedSimpArgs false
set_option maxRecDepth 100000
set_option maxHeartbeats 4000000
namespace Go.Proofs.YtmfapopclbnlpaaGreatDoor
open Go Go.Proofs Go.RowKit Go.Vc
section
def ye:cq:=bN [(75,jQ),(76,nQ),(91,lu),(92,hY),(77,gS),(78,cY)]
def yf(sc us pw:Bs)(hk:Int)(hs:Bs)(hn:Int)(hp:List Int)(port:Int)(pn:Bool)(pl:List Bs)(hq:Bool)(q:Bs)(hf:Bool)(fg:Bs)(bare sp:Bool)(rst:Bs)(bsc bus bpw:Bs)(bhk:Int)(bhs:Bs)(bhn:Int)(bhp:List Int)(bport:Int)(bopq bpn:Bool)(bpl:List Bs)(bhq:Bool)(bq:Bs)(bhf:Bool)(bfg:Bs):aY:=fun i=>none
theorem yg:cS Tryz.prog ay ye:=ai qC (ai vw (ai rP (ai nL (ai jY (ai cG (ax))))))
theorem DO(sc us pw:Bs)(hk:Int)(hs:Bs)(hn:Int)(hp:List Int)(port:Int)(pn:Bool)(pl:List Bs)(hq:Bool)(q:Bs)(hf:Bool)(fg:Bs)(bare sp:Bool)(rst:Bs)(bsc bus bpw:Bs)(bhk:Int)(bhs:Bs)(bhn:Int)(bhp:List Int)(bport:Int)(bopq bpn:Bool)(bpl:List Bs)(bhq:Bool)(bq:Bs)(bhf:Bool)(bfg:Bs)(k:PV→List PV→Prop):bK Tryz.prog ye ay (yf sc us pw hk hs hn hp port pn pl hq q hf fg bare sp rst bsc bus bpw bhk bhs bhn bhp bport bopq bpn bpl bhq bq bhf bfg) 1000 Tryz.f47 [.ptr 0 0] [aC 1 (.ptr 1 0) sc us pw hk hs hn hp port false pn pl hq q hf fg bare sp rst,bD 0 bsc bus bpw bhk bhs bhn bhp bport bopq bpn bpl bhq bq bhf bfg] k=(
 (List.length rst≤(300000:Nat)∧
 (ab rst rst (0:Nat)).2.2=false∧
 bopq=false)∧
 ((!decide ((0:Int)=(0:Int)))=true→
 k (PV.int .i64 (0:Int)) [bT (PV.ptr (1:Nat) (0:Nat)) 1 bsc us pw hk hs hn hp port false pn pl hq q hf fg true (aw bsc) rst,bD (0:Nat) bsc bus bpw bhk bhs bhn bhp bport bopq bpn bpl bhq bq bhf bfg])∧
 ((!decide ((0:Int)=(0:Int)))=false→
 (false=true→
 (List.length rst).le (300000:Nat)∧
 (List.length (bG rst)).le (300000:Nat)∧
 k (PV.int .i64 (0:Int)) [bT (PV.ptr (1:Nat) (0:Nat)) 1 bsc us pw hk hs hn hp port false pn pl (dW rst hq) (dX (aw bsc) rst q) (dY (bG rst) hf) (dZ (bG rst) fg) true (aw bsc) (eb (bG rst)),bD (0:Nat) bsc bus bpw bhk bhs bhn bhp bport bopq bpn bpl bhq bq bhf bfg])∧
 (false=false→
 (decide (bsc=(ByteArray.mk #[102,105,108,101]).data.toList)=true→
 (List.length rst≤(300000:Nat)∧
 bpl.length≤(100000:Nat)∧
 az (aw bsc) rst (0:Int)=false∧
 bQ rst=false∧
 bm rst=false∧
 bsc=bsc)∧
 ((!decide ((0:Int)=(0:Int)))=true→
 k (PV.int .i64 (0:Int)) [bT (PV.ptr (1:Nat) (0:Nat)) 1 bsc us pw (((RS.mk bsc us pw hk hs hn hp port false pn pl hq q hf fg true (aw bsc) rst).b8 (RS.mk bsc bus bpw bhk bhs bhn bhp bport bopq bpn bpl bhq bq bhf bfg false false [])).hk) (((RS.mk bsc us pw hk hs hn hp port false pn pl hq q hf fg true (aw bsc) rst).b8 (RS.mk bsc bus bpw bhk bhs bhn bhp bport bopq bpn bpl bhq bq bhf bfg false false [])).hs) (((RS.mk bsc us pw hk hs hn hp port false pn pl hq q hf fg true (aw bsc) rst).b8 (RS.mk bsc bus bpw bhk bhs bhn bhp bport bopq bpn bpl bhq bq bhf bfg false false [])).hn) (((RS.mk bsc us pw hk hs hn hp port false pn pl hq q hf fg true (aw bsc) rst).b8 (RS.mk bsc bus bpw bhk bhs bhn bhp bport bopq bpn bpl bhq bq bhf bfg false false [])).hp) port false (((RS.mk bsc us pw hk hs hn hp port false pn pl hq q hf fg true (aw bsc) rst).b8 (RS.mk bsc bus bpw bhk bhs bhn bhp bport bopq bpn bpl bhq bq bhf bfg false false [])).pn) (((RS.mk bsc us pw hk hs hn hp port false pn pl hq q hf fg true (aw bsc) rst).b8 (RS.mk bsc bus bpw bhk bhs bhn bhp bport bopq bpn bpl bhq bq bhf bfg false false [])).pl) hq q hf fg true (aw bsc) (((RS.mk bsc us pw hk hs hn hp port false pn pl hq q hf fg true (aw bsc) rst).b8 (RS.mk bsc bus bpw bhk bhs bhn bhp bport bopq bpn bpl bhq bq bhf bfg false false [])).rst),bD (0:Nat) bsc bus bpw bhk bhs bhn bhp bport bopq bpn bpl bhq bq bhf bfg])∧
 ((!decide ((0:Int)=(0:Int)))=false→
 (List.length ((RS.mk bsc us pw hk hs hn hp port false pn pl hq q hf fg true (aw bsc) rst).b8 (RS.mk bsc bus bpw bhk bhs bhn bhp bport bopq bpn bpl bhq bq bhf bfg false false [])).rst).le (300000:Nat)∧
 (List.length (bG ((RS.mk bsc us pw hk hs hn hp port false pn pl hq q hf fg true (aw bsc) rst).b8 (RS.mk bsc bus bpw bhk bhs bhn bhp bport bopq bpn bpl bhq bq bhf bfg false false [])).rst)).le (300000:Nat)∧
 k (PV.int .i64 (0:Int)) [bT (PV.ptr (1:Nat) (0:Nat)) 1 bsc us pw (((RS.mk bsc us pw hk hs hn hp port false pn pl hq q hf fg true (aw bsc) rst).b8 (RS.mk bsc bus bpw bhk bhs bhn bhp bport bopq bpn bpl bhq bq bhf bfg false false [])).hk) (((RS.mk bsc us pw hk hs hn hp port false pn pl hq q hf fg true (aw bsc) rst).b8 (RS.mk bsc bus bpw bhk bhs bhn bhp bport bopq bpn bpl bhq bq bhf bfg false false [])).hs) (((RS.mk bsc us pw hk hs hn hp port false pn pl hq q hf fg true (aw bsc) rst).b8 (RS.mk bsc bus bpw bhk bhs bhn bhp bport bopq bpn bpl bhq bq bhf bfg false false [])).hn) (((RS.mk bsc us pw hk hs hn hp port false pn pl hq q hf fg true (aw bsc) rst).b8 (RS.mk bsc bus bpw bhk bhs bhn bhp bport bopq bpn bpl bhq bq bhf bfg false false [])).hp) port false (((RS.mk bsc us pw hk hs hn hp port false pn pl hq q hf fg true (aw bsc) rst).b8 (RS.mk bsc bus bpw bhk bhs bhn bhp bport bopq bpn bpl bhq bq bhf bfg false false [])).pn) (((RS.mk bsc us pw hk hs hn hp port false pn pl hq q hf fg true (aw bsc) rst).b8 (RS.mk bsc bus bpw bhk bhs bhn bhp bport bopq bpn bpl bhq bq bhf bfg false false [])).pl) (dW ((RS.mk bsc us pw hk hs hn hp port false pn pl hq q hf fg true (aw bsc) rst).b8 (RS.mk bsc bus bpw bhk bhs bhn bhp bport bopq bpn bpl bhq bq bhf bfg false false [])).rst hq) (dX (aw bsc) ((RS.mk bsc us pw hk hs hn hp port false pn pl hq q hf fg true (aw bsc) rst).b8 (RS.mk bsc bus bpw bhk bhs bhn bhp bport bopq bpn bpl bhq bq bhf bfg false false [])).rst q) (dY (bG ((RS.mk bsc us pw hk hs hn hp port false pn pl hq q hf fg true (aw bsc) rst).b8 (RS.mk bsc bus bpw bhk bhs bhn bhp bport bopq bpn bpl bhq bq bhf bfg false false [])).rst) hf) (dZ (bG ((RS.mk bsc us pw hk hs hn hp port false pn pl hq q hf fg true (aw bsc) rst).b8 (RS.mk bsc bus bpw bhk bhs bhn bhp bport bopq bpn bpl bhq bq bhf bfg false false [])).rst) fg) true (aw bsc) (eb (bG ((RS.mk bsc us pw hk hs hn hp port false pn pl hq q hf fg true (aw bsc) rst).b8 (RS.mk bsc bus bpw bhk bhs bhn bhp bport bopq bpn bpl bhq bq bhf bfg false false [])).rst)),bD (0:Nat) bsc bus bpw bhk bhs bhn bhp bport bopq bpn bpl bhq bq bhf bfg]))∧
 (decide (bsc=(ByteArray.mk #[102,105,108,101]).data.toList)=false→
 (true=false→
 (aw bsc=true→
 bsc=bsc∧
 (false=false→
 true=true→
 True)∧
 ((!preB rst (ByteArray.mk #[47,47]).data.toList)=true→
 False)∧
 ((!preB rst (ByteArray.mk #[47,47]).data.toList)=false→
 (aw bsc=true→
 False)∧
 (aw bsc=false→
 False)))∧
 (aw bsc=!true→
 (false=false→
 false=true→
 True)∧
 (false=true→
 False)∧
 (false=false→
 (aw bsc=true→
 False)∧
 (aw bsc=false→
 False))))∧
 (true=!false→
 ((!false)=false→
 false=true→
 True)∧
 (true=true→
 False)∧
 (true=false→
 (aw bsc=true→
 False)∧
 (aw bsc=false→
 False))))))):=by kernel_rfl
attribute [local irreducible] Go.Vc.cC Go.Vc.bK
theorem yh(sc us pw:Bs)(hk:Int)(hs:Bs)(hn:Int)(hp:List Int)(port:Int)(pn:Bool)(pl:List Bs)(hq:Bool)(q:Bs)(hf:Bool)(fg:Bs)(bare sp:Bool)(rst:Bs)(bsc bus bpw:Bs)(bhk:Int)(bhs:Bs)(bhn:Int)(bhp:List Int)(bport:Int)(bopq bpn:Bool)(bpl:List Bs)(bhq:Bool)(bq:Bs)(bhf:Bool)(bfg:Bs):bj Tryz.prog ay 47 [.ptr 0 0] [aC 1 (.ptr 1 0) sc us pw hk hs hn hp port false pn pl hq q hf fg bare sp rst,bD 0 bsc bus bpw bhk bhs bhn bhp bport bopq bpn bpl bhq bq bhf bfg] (rst.length≤300000∧bpl.length≤100000∧(ab rst rst 0).2.2=false∧bopq=false∧bsc=fL∧az (aw bsc) rst 0=false∧bQ rst=false∧bm rst=false) (.int .i64 0) [aC 0 (.ptr 1 0) (((RS.mk sc us pw hk hs hn hp port false pn pl hq q hf fg bare sp rst).au (RS.mk bsc bus bpw bhk bhs bhn bhp bport bopq bpn bpl bhq bq bhf bfg false false [])).sc) (((RS.mk sc us pw hk hs hn hp port false pn pl hq q hf fg bare sp rst).au (RS.mk bsc bus bpw bhk bhs bhn bhp bport bopq bpn bpl bhq bq bhf bfg false false [])).us) (((RS.mk sc us pw hk hs hn hp port false pn pl hq q hf fg bare sp rst).au (RS.mk bsc bus bpw bhk bhs bhn bhp bport bopq bpn bpl bhq bq bhf bfg false false [])).pw) (((RS.mk sc us pw hk hs hn hp port false pn pl hq q hf fg bare sp rst).au (RS.mk bsc bus bpw bhk bhs bhn bhp bport bopq bpn bpl bhq bq bhf bfg false false [])).hk) (((RS.mk sc us pw hk hs hn hp port false pn pl hq q hf fg bare sp rst).au (RS.mk bsc bus bpw bhk bhs bhn bhp bport bopq bpn bpl bhq bq bhf bfg false false [])).hs) (((RS.mk sc us pw hk hs hn hp port false pn pl hq q hf fg bare sp rst).au (RS.mk bsc bus bpw bhk bhs bhn bhp bport bopq bpn bpl bhq bq bhf bfg false false [])).hn) (((RS.mk sc us pw hk hs hn hp port false pn pl hq q hf fg bare sp rst).au (RS.mk bsc bus bpw bhk bhs bhn bhp bport bopq bpn bpl bhq bq bhf bfg false false [])).hp) (((RS.mk sc us pw hk hs hn hp port false pn pl hq q hf fg bare sp rst).au (RS.mk bsc bus bpw bhk bhs bhn bhp bport bopq bpn bpl bhq bq bhf bfg false false [])).port) (((RS.mk sc us pw hk hs hn hp port false pn pl hq q hf fg bare sp rst).au (RS.mk bsc bus bpw bhk bhs bhn bhp bport bopq bpn bpl bhq bq bhf bfg false false [])).opq) (((RS.mk sc us pw hk hs hn hp port false pn pl hq q hf fg bare sp rst).au (RS.mk bsc bus bpw bhk bhs bhn bhp bport bopq bpn bpl bhq bq bhf bfg false false [])).pn) (((RS.mk sc us pw hk hs hn hp port false pn pl hq q hf fg bare sp rst).au (RS.mk bsc bus bpw bhk bhs bhn bhp bport bopq bpn bpl bhq bq bhf bfg false false [])).pl) (((RS.mk sc us pw hk hs hn hp port false pn pl hq q hf fg bare sp rst).au (RS.mk bsc bus bpw bhk bhs bhn bhp bport bopq bpn bpl bhq bq bhf bfg false false [])).hq) (((RS.mk sc us pw hk hs hn hp port false pn pl hq q hf fg bare sp rst).au (RS.mk bsc bus bpw bhk bhs bhn bhp bport bopq bpn bpl bhq bq bhf bfg false false [])).q) (((RS.mk sc us pw hk hs hn hp port false pn pl hq q hf fg bare sp rst).au (RS.mk bsc bus bpw bhk bhs bhn bhp bport bopq bpn bpl bhq bq bhf bfg false false [])).hf) (((RS.mk sc us pw hk hs hn hp port false pn pl hq q hf fg bare sp rst).au (RS.mk bsc bus bpw bhk bhs bhn bhp bport bopq bpn bpl bhq bq bhf bfg false false [])).fg) (((RS.mk sc us pw hk hs hn hp port false pn pl hq q hf fg bare sp rst).au (RS.mk bsc bus bpw bhk bhs bhn bhp bport bopq bpn bpl bhq bq bhf bfg false false [])).bare) (((RS.mk sc us pw hk hs hn hp port false pn pl hq q hf fg bare sp rst).au (RS.mk bsc bus bpw bhk bhs bhn bhp bport bopq bpn bpl bhq bq bhf bfg false false [])).sp) (((RS.mk sc us pw hk hs hn hp port false pn pl hq q hf fg bare sp rst).au (RS.mk bsc bus bpw bhk bhs bhn bhp bport bopq bpn bpl bhq bq bhf bfg false false [])).rst),bD 0 bsc bus bpw bhk bhs bhn bhp bport bopq bpn bpl bhq bq bhf bfg]:=uh (by kernel_rfl) yg (H:=yf sc us pw hk hs hn hp port pn pl hq q hf fg bare sp rst bsc bus bpw bhk bhs bhn bhp bport bopq bpn bpl bhq bq bhf bfg) (fuel:=1000) Tryz.func47 (by kernel_rfl) (Nat.le_of_ble_eq_true rfl) fun hpre=>(DO sc us pw hk hs hn hp port pn pl hq q hf fg bare sp rst bsc bus bpw bhk bhs bhn bhp bport bopq bpn bpl bhq bq bhf bfg _).mpr (by
 obtain ⟨h1,h2,h3,h4,h5,h6,h7,h8⟩:=hpre
 have hb:decide (bsc=(ByteArray.mk #[102,105,108,101]).data.toList)=true:=decide_eq_true h5
 have hr:((RS.mk bsc us pw hk hs hn hp port false pn pl hq q hf fg true (aw bsc) rst).b8 (RS.mk bsc bus bpw bhk bhs bhn bhp bport bopq bpn bpl bhq bq bhf bfg false false [])).rst.length≤300000:=by
  show(aa rst _).length≤_
  unfold aa
  rw [List.length_drop];omega
 have e:(RS.mk sc us pw hk hs hn hp port false pn pl hq q hf fg bare sp rst).au (RS.mk bsc bus bpw bhk bhs bhn bhp bport bopq bpn bpl bhq bq bhf bfg false false [])=_:=gT _
 rw [e]
 exact ⟨⟨h1,h3,h4⟩,(fun h=>absurd h (by decide)),fun _=>⟨(fun h=>nomatch h),fun _=>⟨fun _=>⟨⟨h1,h2,h6,h7,h8,rfl⟩,(fun h=>absurd h (by decide)),fun _=>⟨hr,Nat.le_trans (iJ _) hr,rfl,rfl⟩⟩,fun h=>absurd (h.symm.trans hb) nofun⟩⟩⟩)
end
section
attribute [local instance] Kn
theorem vA(sc us pw:Bs)(hk:Int)(hs:Bs)(hn:Int)(hp:List Int)(port:Int)(hq:Bool)(q:Bs)(hf:Bool)(fg:Bs)(bare sp:Bool)(rst:Bs)(bsc bus bpw:Bs)(bhk:Int)(bhs:Bs)(bhn:Int)(bhp:List Int)(bport:Int)(bopq bpn:Bool)(bpl:List Bs)(bhq:Bool)(bq:Bs)(bhf:Bool)(bfg:Bs):bj Tryz.prog ay 47 [.ptr 0 0] [aC 0 (.ptr 1 0) sc us pw hk hs hn hp port false true [] hq q hf fg bare sp rst,bD 0 bsc bus bpw bhk bhs bhn bhp bport bopq bpn bpl bhq bq bhf bfg] (rst.length≤300000∧bpl.length≤100000∧(ab rst rst 0).2.2=false∧bopq=false∧bsc=fL∧az (aw bsc) rst 0=false∧bQ rst=false∧bm rst=false) (.int .i64 0) [aC 0 (.ptr 1 0) (((RS.mk sc us pw hk hs hn hp port false true ([]:List Bs) hq q hf fg bare sp rst).au (RS.mk bsc bus bpw bhk bhs bhn bhp bport bopq bpn bpl bhq bq bhf bfg false false [])).sc) (((RS.mk sc us pw hk hs hn hp port false true ([]:List Bs) hq q hf fg bare sp rst).au (RS.mk bsc bus bpw bhk bhs bhn bhp bport bopq bpn bpl bhq bq bhf bfg false false [])).us) (((RS.mk sc us pw hk hs hn hp port false true ([]:List Bs) hq q hf fg bare sp rst).au (RS.mk bsc bus bpw bhk bhs bhn bhp bport bopq bpn bpl bhq bq bhf bfg false false [])).pw) (((RS.mk sc us pw hk hs hn hp port false true ([]:List Bs) hq q hf fg bare sp rst).au (RS.mk bsc bus bpw bhk bhs bhn bhp bport bopq bpn bpl bhq bq bhf bfg false false [])).hk) (((RS.mk sc us pw hk hs hn hp port false true ([]:List Bs) hq q hf fg bare sp rst).au (RS.mk bsc bus bpw bhk bhs bhn bhp bport bopq bpn bpl bhq bq bhf bfg false false [])).hs) (((RS.mk sc us pw hk hs hn hp port false true ([]:List Bs) hq q hf fg bare sp rst).au (RS.mk bsc bus bpw bhk bhs bhn bhp bport bopq bpn bpl bhq bq bhf bfg false false [])).hn) (((RS.mk sc us pw hk hs hn hp port false true ([]:List Bs) hq q hf fg bare sp rst).au (RS.mk bsc bus bpw bhk bhs bhn bhp bport bopq bpn bpl bhq bq bhf bfg false false [])).hp) (((RS.mk sc us pw hk hs hn hp port false true ([]:List Bs) hq q hf fg bare sp rst).au (RS.mk bsc bus bpw bhk bhs bhn bhp bport bopq bpn bpl bhq bq bhf bfg false false [])).port) (((RS.mk sc us pw hk hs hn hp port false true ([]:List Bs) hq q hf fg bare sp rst).au (RS.mk bsc bus bpw bhk bhs bhn bhp bport bopq bpn bpl bhq bq bhf bfg false false [])).opq) (((RS.mk sc us pw hk hs hn hp port false true ([]:List Bs) hq q hf fg bare sp rst).au (RS.mk bsc bus bpw bhk bhs bhn bhp bport bopq bpn bpl bhq bq bhf bfg false false [])).pn) (((RS.mk sc us pw hk hs hn hp port false true ([]:List Bs) hq q hf fg bare sp rst).au (RS.mk bsc bus bpw bhk bhs bhn bhp bport bopq bpn bpl bhq bq bhf bfg false false [])).pl) (((RS.mk sc us pw hk hs hn hp port false true ([]:List Bs) hq q hf fg bare sp rst).au (RS.mk bsc bus bpw bhk bhs bhn bhp bport bopq bpn bpl bhq bq bhf bfg false false [])).hq) (((RS.mk sc us pw hk hs hn hp port false true ([]:List Bs) hq q hf fg bare sp rst).au (RS.mk bsc bus bpw bhk bhs bhn bhp bport bopq bpn bpl bhq bq bhf bfg false false [])).q) (((RS.mk sc us pw hk hs hn hp port false true ([]:List Bs) hq q hf fg bare sp rst).au (RS.mk bsc bus bpw bhk bhs bhn bhp bport bopq bpn bpl bhq bq bhf bfg false false [])).hf) (((RS.mk sc us pw hk hs hn hp port false true ([]:List Bs) hq q hf fg bare sp rst).au (RS.mk bsc bus bpw bhk bhs bhn bhp bport bopq bpn bpl bhq bq bhf bfg false false [])).fg) (((RS.mk sc us pw hk hs hn hp port false true ([]:List Bs) hq q hf fg bare sp rst).au (RS.mk bsc bus bpw bhk bhs bhn bhp bport bopq bpn bpl bhq bq bhf bfg false false [])).bare) (((RS.mk sc us pw hk hs hn hp port false true ([]:List Bs) hq q hf fg bare sp rst).au (RS.mk bsc bus bpw bhk bhs bhn bhp bport bopq bpn bpl bhq bq bhf bfg false false [])).sp) (((RS.mk sc us pw hk hs hn hp port false true ([]:List Bs) hq q hf fg bare sp rst).au (RS.mk bsc bus bpw bhk bhs bhn bhp bport bopq bpn bpl bhq bq bhf bfg false false [])).rst),bD 0 bsc bus bpw bhk bhs bhn bhp bport bopq bpn bpl bhq bq bhf bfg]:=fun hpre F w vs bs τ hF hT hw hb hτ hl hx=>
 yh sc us pw hk hs hn hp port true [] hq q hf fg bare sp rst bsc bus bpw bhk bhs bhn bhp bport bopq bpn bpl bhq bq bhf bfg hpre F w vs bs τ hF hT hw hb hτ ⟨hl.len,hl.nd,hl.bF,hl.mks,hl.inj,fun i x hx=>by
  match i,hx with
  |0,hx=>
   injection hx with hx
   subst hx
   obtain ⟨b,h1,u,e,fz,g1,g2,g3,g4,g5⟩:=hl.box 0 _ rfl
   exact ⟨b,h1,u,e,fz,g1,g2,aP.map (f:=DI) (fun y v _ hy=>x5 hy) (fun y _=>x6 y) g3,g4,g5⟩
  |1,hx=>exact hl.box 1 x hx
  |i+2,hx=>cases hx⟩ hx
theorem Az(sc us pw:Bs)(hk:Int)(hs:Bs)(hn:Int)(hp:List Int)(port:Int)(hq:Bool)(q:Bs)(hf:Bool)(fg:Bs)(bare sp:Bool)(rst:Bs)(bsc bus bpw:Bs)(bhk:Int)(bhs:Bs)(bhn:Int)(bhp:List Int)(bport:Int)(bopq bpn:Bool)(bpl:List Bs)(bhq:Bool)(bq:Bs)(bhf:Bool)(bfg:Bs):ag Tryz.prog ay 47 [.ptr 0 0,aC 0 (.ptr 1 0) sc us pw hk hs hn hp port false true [] hq q hf fg bare sp rst,bD 0 bsc bus bpw bhk bhs bhn bhp bport bopq bpn bpl bhq bq bhf bfg] ⟨rst.length≤300000∧bpl.length≤100000∧(ab rst rst 0).2.2=false∧bopq=false∧bsc=fL∧az (aw bsc) rst 0=false∧bQ rst=false∧bm rst=false,.tup [.int .i64 0,aC 0 (.ptr 1 0) (((RS.mk sc us pw hk hs hn hp port false true ([]:List Bs) hq q hf fg bare sp rst).au (RS.mk bsc bus bpw bhk bhs bhn bhp bport bopq bpn bpl bhq bq bhf bfg false false [])).sc) (((RS.mk sc us pw hk hs hn hp port false true ([]:List Bs) hq q hf fg bare sp rst).au (RS.mk bsc bus bpw bhk bhs bhn bhp bport bopq bpn bpl bhq bq bhf bfg false false [])).us) (((RS.mk sc us pw hk hs hn hp port false true ([]:List Bs) hq q hf fg bare sp rst).au (RS.mk bsc bus bpw bhk bhs bhn bhp bport bopq bpn bpl bhq bq bhf bfg false false [])).pw) (((RS.mk sc us pw hk hs hn hp port false true ([]:List Bs) hq q hf fg bare sp rst).au (RS.mk bsc bus bpw bhk bhs bhn bhp bport bopq bpn bpl bhq bq bhf bfg false false [])).hk) (((RS.mk sc us pw hk hs hn hp port false true ([]:List Bs) hq q hf fg bare sp rst).au (RS.mk bsc bus bpw bhk bhs bhn bhp bport bopq bpn bpl bhq bq bhf bfg false false [])).hs) (((RS.mk sc us pw hk hs hn hp port false true ([]:List Bs) hq q hf fg bare sp rst).au (RS.mk bsc bus bpw bhk bhs bhn bhp bport bopq bpn bpl bhq bq bhf bfg false false [])).hn) (((RS.mk sc us pw hk hs hn hp port false true ([]:List Bs) hq q hf fg bare sp rst).au (RS.mk bsc bus bpw bhk bhs bhn bhp bport bopq bpn bpl bhq bq bhf bfg false false [])).hp) (((RS.mk sc us pw hk hs hn hp port false true ([]:List Bs) hq q hf fg bare sp rst).au (RS.mk bsc bus bpw bhk bhs bhn bhp bport bopq bpn bpl bhq bq bhf bfg false false [])).port) (((RS.mk sc us pw hk hs hn hp port false true ([]:List Bs) hq q hf fg bare sp rst).au (RS.mk bsc bus bpw bhk bhs bhn bhp bport bopq bpn bpl bhq bq bhf bfg false false [])).opq) (((RS.mk sc us pw hk hs hn hp port false true ([]:List Bs) hq q hf fg bare sp rst).au (RS.mk bsc bus bpw bhk bhs bhn bhp bport bopq bpn bpl bhq bq bhf bfg false false [])).pn) (((RS.mk sc us pw hk hs hn hp port false true ([]:List Bs) hq q hf fg bare sp rst).au (RS.mk bsc bus bpw bhk bhs bhn bhp bport bopq bpn bpl bhq bq bhf bfg false false [])).pl) (((RS.mk sc us pw hk hs hn hp port false true ([]:List Bs) hq q hf fg bare sp rst).au (RS.mk bsc bus bpw bhk bhs bhn bhp bport bopq bpn bpl bhq bq bhf bfg false false [])).hq) (((RS.mk sc us pw hk hs hn hp port false true ([]:List Bs) hq q hf fg bare sp rst).au (RS.mk bsc bus bpw bhk bhs bhn bhp bport bopq bpn bpl bhq bq bhf bfg false false [])).q) (((RS.mk sc us pw hk hs hn hp port false true ([]:List Bs) hq q hf fg bare sp rst).au (RS.mk bsc bus bpw bhk bhs bhn bhp bport bopq bpn bpl bhq bq bhf bfg false false [])).hf) (((RS.mk sc us pw hk hs hn hp port false true ([]:List Bs) hq q hf fg bare sp rst).au (RS.mk bsc bus bpw bhk bhs bhn bhp bport bopq bpn bpl bhq bq bhf bfg false false [])).fg) (((RS.mk sc us pw hk hs hn hp port false true ([]:List Bs) hq q hf fg bare sp rst).au (RS.mk bsc bus bpw bhk bhs bhn bhp bport bopq bpn bpl bhq bq bhf bfg false false [])).bare) (((RS.mk sc us pw hk hs hn hp port false true ([]:List Bs) hq q hf fg bare sp rst).au (RS.mk bsc bus bpw bhk bhs bhn bhp bport bopq bpn bpl bhq bq bhf bfg false false [])).sp) (((RS.mk sc us pw hk hs hn hp port false true ([]:List Bs) hq q hf fg bare sp rst).au (RS.mk bsc bus bpw bhk bhs bhn bhp bport bopq bpn bpl bhq bq bhf bfg false false [])).rst),bD 0 bsc bus bpw bhk bhs bhn bhp bport bopq bpn bpl bhq bq bhf bfg]⟩:=ag.aZ (fun h=>by have e:List.isEmpty (PV.aA PV.br [.ptr 0 0,aC 0 (.ptr 1 0) sc us pw hk hs hn hp port false true [] hq q hf fg bare sp rst,bD 0 bsc bus bpw bhk bhs bhn bhp bport bopq bpn bpl bhq bq bhf bfg])=false:=(by kernel_rfl);exact Bool.noConfusion (e.symm.trans (congrArg List.isEmpty h))) (vA sc us pw hk hs hn hp port hq q hf fg bare sp rst bsc bus bpw bhk bhs bhn bhp bport bopq bpn bpl bhq bq bhf bfg)
def j4:List PV→Option aI:=fun xs=>match xs with
 |[.ptr 0 0,aC 0 (.ptr 1 0) sc us pw hk hs hn hp port false true [] hq q hf fg bare sp rst,bD 0 bsc bus bpw bhk bhs bhn bhp bport bopq bpn bpl bhq bq bhf bfg]=>some ⟨rst.length≤300000∧bpl.length≤100000∧(ab rst rst 0).2.2=false∧bopq=false∧bsc=fL∧az (aw bsc) rst 0=false∧bQ rst=false∧bm rst=false,.tup [.int .i64 0,aC 0 (.ptr 1 0) (((RS.mk sc us pw hk hs hn hp port false true ([]:List Bs) hq q hf fg bare sp rst).au (RS.mk bsc bus bpw bhk bhs bhn bhp bport bopq bpn bpl bhq bq bhf bfg false false [])).sc) (((RS.mk sc us pw hk hs hn hp port false true ([]:List Bs) hq q hf fg bare sp rst).au (RS.mk bsc bus bpw bhk bhs bhn bhp bport bopq bpn bpl bhq bq bhf bfg false false [])).us) (((RS.mk sc us pw hk hs hn hp port false true ([]:List Bs) hq q hf fg bare sp rst).au (RS.mk bsc bus bpw bhk bhs bhn bhp bport bopq bpn bpl bhq bq bhf bfg false false [])).pw) (((RS.mk sc us pw hk hs hn hp port false true ([]:List Bs) hq q hf fg bare sp rst).au (RS.mk bsc bus bpw bhk bhs bhn bhp bport bopq bpn bpl bhq bq bhf bfg false false [])).hk) (((RS.mk sc us pw hk hs hn hp port false true ([]:List Bs) hq q hf fg bare sp rst).au (RS.mk bsc bus bpw bhk bhs bhn bhp bport bopq bpn bpl bhq bq bhf bfg false false [])).hs) (((RS.mk sc us pw hk hs hn hp port false true ([]:List Bs) hq q hf fg bare sp rst).au (RS.mk bsc bus bpw bhk bhs bhn bhp bport bopq bpn bpl bhq bq bhf bfg false false [])).hn) (((RS.mk sc us pw hk hs hn hp port false true ([]:List Bs) hq q hf fg bare sp rst).au (RS.mk bsc bus bpw bhk bhs bhn bhp bport bopq bpn bpl bhq bq bhf bfg false false [])).hp) (((RS.mk sc us pw hk hs hn hp port false true ([]:List Bs) hq q hf fg bare sp rst).au (RS.mk bsc bus bpw bhk bhs bhn bhp bport bopq bpn bpl bhq bq bhf bfg false false [])).port) (((RS.mk sc us pw hk hs hn hp port false true ([]:List Bs) hq q hf fg bare sp rst).au (RS.mk bsc bus bpw bhk bhs bhn bhp bport bopq bpn bpl bhq bq bhf bfg false false [])).opq) (((RS.mk sc us pw hk hs hn hp port false true ([]:List Bs) hq q hf fg bare sp rst).au (RS.mk bsc bus bpw bhk bhs bhn bhp bport bopq bpn bpl bhq bq bhf bfg false false [])).pn) (((RS.mk sc us pw hk hs hn hp port false true ([]:List Bs) hq q hf fg bare sp rst).au (RS.mk bsc bus bpw bhk bhs bhn bhp bport bopq bpn bpl bhq bq bhf bfg false false [])).pl) (((RS.mk sc us pw hk hs hn hp port false true ([]:List Bs) hq q hf fg bare sp rst).au (RS.mk bsc bus bpw bhk bhs bhn bhp bport bopq bpn bpl bhq bq bhf bfg false false [])).hq) (((RS.mk sc us pw hk hs hn hp port false true ([]:List Bs) hq q hf fg bare sp rst).au (RS.mk bsc bus bpw bhk bhs bhn bhp bport bopq bpn bpl bhq bq bhf bfg false false [])).q) (((RS.mk sc us pw hk hs hn hp port false true ([]:List Bs) hq q hf fg bare sp rst).au (RS.mk bsc bus bpw bhk bhs bhn bhp bport bopq bpn bpl bhq bq bhf bfg false false [])).hf) (((RS.mk sc us pw hk hs hn hp port false true ([]:List Bs) hq q hf fg bare sp rst).au (RS.mk bsc bus bpw bhk bhs bhn bhp bport bopq bpn bpl bhq bq bhf bfg false false [])).fg) (((RS.mk sc us pw hk hs hn hp port false true ([]:List Bs) hq q hf fg bare sp rst).au (RS.mk bsc bus bpw bhk bhs bhn bhp bport bopq bpn bpl bhq bq bhf bfg false false [])).bare) (((RS.mk sc us pw hk hs hn hp port false true ([]:List Bs) hq q hf fg bare sp rst).au (RS.mk bsc bus bpw bhk bhs bhn bhp bport bopq bpn bpl bhq bq bhf bfg false false [])).sp) (((RS.mk sc us pw hk hs hn hp port false true ([]:List Bs) hq q hf fg bare sp rst).au (RS.mk bsc bus bpw bhk bhs bhn bhp bport bopq bpn bpl bhq bq bhf bfg false false [])).rst),bD 0 bsc bus bpw bhk bhs bhn bhp bport bopq bpn bpl bhq bq bhf bfg]⟩
 |_=>none
theorem rl:∀xs c,j4 xs=some c→ag Tryz.prog ay 47 xs c:=fun xs c h=>by
 unfold j4 at h
 split at h
 ·injection h with h;subst h;exact Az _ _ _ _ _ _ _ _ _ _ _ _ _ _ _ _ _ _ _ _ _ _ _ _ _ _ _ _ _ _
 ·cases h
end
section
def yi:cq:=bN [(46,km),(47,j4)]
def yj(l:Bs)(bsc bus bpw:Bs)(bhk:Int)(bhs:Bs)(bhn:Int)(bhp:List Int)(bport:Int)(bopq bpn:Bool)(bpl:List Bs)(bhq:Bool)(bq:Bs)(bhf:Bool)(bfg:Bs):aY:=fun i=>none
theorem yk:cS Tryz.prog ay yi:=ai mn (ai rl (ax))
theorem DP(l:Bs)(bsc bus bpw:Bs)(bhk:Int)(bhs:Bs)(bhn:Int)(bhp:List Int)(bport:Int)(bopq bpn:Bool)(bpl:List Bs)(bhq:Bool)(bq:Bs)(bhf:Bool)(bfg:Bs)(k:PV→List PV→Prop):bK Tryz.prog yi ay (yj l bsc bus bpw bhk bhs bhn bhp bport bopq bpn bpl bhq bq bhf bfg) 1000 Tryz.f30 [.str l,.ptr 0 0] [bD 0 bsc bus bpw bhk bhs bhn bhp bport bopq bpn bpl bhq bq bhf bfg] k=(
 (decide ((1048576:Int)<ak l)=true→
 k
 (PV.tup
 [bD (0:Nat) [] [] [] (0:Int) [] (0:Int) (List.replicate (8:Nat) (0:Int)) (0:Int) false true [] false [] false [],
 PV.int .i64 (6:Int)])
 [bD (0:Nat) bsc bus bpw bhk bhs bhn bhp bport bopq bpn bpl bhq bq bhf bfg])∧
 (decide ((1048576:Int)<ak l)=false→
 (List.length l).le (60000:Nat)∧
 (List.length (an l)≤(300000:Nat)∧
 bpl.length≤(100000:Nat)∧
 (ab (an l) (an l)
 (0:Nat)).2.2=
 false∧
 bopq=false∧
 bsc=fL∧
 az (aw bsc) (an l)
 (0:Int)=
 false∧
 bQ (an l)=false∧
 bm (an l)=false)∧
 ((!decide ((0:Int)=(0:Int)))=true→
 k
 (PV.tup
 [bD (0:Nat) [] [] [] (0:Int) [] (0:Int) (List.replicate (8:Nat) (0:Int)) (0:Int) false true [] false [] false [],
 PV.int .i64 (0:Int)])
 [bD (0:Nat) bsc bus bpw bhk bhs bhn bhp bport bopq bpn bpl bhq bq bhf bfg])∧
 ((!decide ((0:Int)=(0:Int)))=false→
 k
 (PV.tup
 [bD (0:Nat) ((RS.mk [] [] [] (0:Int) [] (0:Int) (List.replicate (8:Nat) (0:Int)) (-1:Int) false true
 [] false [] false [] false false (an l)).au
 (RS.mk bsc bus bpw bhk bhs bhn bhp bport bopq bpn bpl bhq bq bhf bfg false false [])).sc ((RS.mk [] [] [] (0:Int) [] (0:Int) (List.replicate (8:Nat) (0:Int)) (-1:Int) false true
 [] false [] false [] false false (an l)).au
 (RS.mk bsc bus bpw bhk bhs bhn bhp bport bopq bpn bpl bhq bq bhf bfg false false [])).us ((RS.mk [] [] [] (0:Int) [] (0:Int) (List.replicate (8:Nat) (0:Int)) (-1:Int) false true
 [] false [] false [] false false (an l)).au
 (RS.mk bsc bus bpw bhk bhs bhn bhp bport bopq bpn bpl bhq bq bhf bfg false false [])).pw ((RS.mk [] [] [] (0:Int) [] (0:Int) (List.replicate (8:Nat) (0:Int)) (-1:Int) false
 true [] false [] false [] false false (an l)).au
 (RS.mk bsc bus bpw bhk bhs bhn bhp bport bopq bpn bpl bhq bq bhf bfg false false [])).hk ((RS.mk [] [] [] (0:Int) [] (0:Int) (List.replicate (8:Nat) (0:Int)) (-1:Int) false
 true [] false [] false [] false false (an l)).au
 (RS.mk bsc bus bpw bhk bhs bhn bhp bport bopq bpn bpl bhq bq bhf bfg false false [])).hs ((RS.mk [] [] [] (0:Int) [] (0:Int) (List.replicate (8:Nat) (0:Int)) (-1:Int) false
 true [] false [] false [] false false (an l)).au
 (RS.mk bsc bus bpw bhk bhs bhn bhp bport bopq bpn bpl bhq bq bhf bfg false false [])).hn ((RS.mk [] [] [] (0:Int) [] (0:Int) (List.replicate (8:Nat) (0:Int)) (-1:Int) false
 true [] false [] false [] false false (an l)).au
 (RS.mk bsc bus bpw bhk bhs bhn bhp bport bopq bpn bpl bhq bq bhf bfg false false
 [])).hp ((RS.mk [] [] [] (0:Int) [] (0:Int) (List.replicate (8:Nat) (0:Int)) (-1:Int) false true
 [] false [] false [] false false (an l)).au
 (RS.mk bsc bus bpw bhk bhs bhn bhp bport bopq bpn bpl bhq bq bhf bfg false false [])).port ((RS.mk [] [] [] (0:Int) [] (0:Int) (List.replicate (8:Nat) (0:Int)) (-1:Int) false true
 [] false [] false [] false false (an l)).au
 (RS.mk bsc bus bpw bhk bhs bhn bhp bport bopq bpn bpl bhq bq bhf bfg false false [])).opq ((RS.mk [] [] [] (0:Int) [] (0:Int) (List.replicate (8:Nat) (0:Int)) (-1:Int) false true
 [] false [] false [] false false (an l)).au
 (RS.mk bsc bus bpw bhk bhs bhn bhp bport bopq bpn bpl bhq bq bhf bfg false false [])).pn ((RS.mk [] [] [] (0:Int) [] (0:Int) (List.replicate (8:Nat) (0:Int)) (-1:Int) false true
 [] false [] false [] false false (an l)).au
 (RS.mk bsc bus bpw bhk bhs bhn bhp bport bopq bpn bpl bhq bq bhf bfg false false [])).pl ((RS.mk [] [] [] (0:Int) [] (0:Int) (List.replicate (8:Nat) (0:Int)) (-1:Int) false true
 [] false [] false [] false false (an l)).au
 (RS.mk bsc bus bpw bhk bhs bhn bhp bport bopq bpn bpl bhq bq bhf bfg false false [])).hq ((RS.mk [] [] [] (0:Int) [] (0:Int) (List.replicate (8:Nat) (0:Int)) (-1:Int) false true
 [] false [] false [] false false (an l)).au
 (RS.mk bsc bus bpw bhk bhs bhn bhp bport bopq bpn bpl bhq bq bhf bfg false false [])).q ((RS.mk [] [] [] (0:Int) [] (0:Int) (List.replicate (8:Nat) (0:Int)) (-1:Int) false true
 [] false [] false [] false false (an l)).au
 (RS.mk bsc bus bpw bhk bhs bhn bhp bport bopq bpn bpl bhq bq bhf bfg false false [])).hf ((RS.mk [] [] [] (0:Int) [] (0:Int) (List.replicate (8:Nat) (0:Int)) (-1:Int) false true
 [] false [] false [] false false (an l)).au
 (RS.mk bsc bus bpw bhk bhs bhn bhp bport bopq bpn bpl bhq bq bhf bfg false false [])).fg,
 PV.int .i64 (0:Int)])
 [bD (0:Nat) bsc bus bpw bhk bhs bhn bhp bport bopq bpn bpl bhq bq bhf bfg]))):=by kernel_rfl
attribute [local irreducible] Go.Vc.cC Go.Vc.bK
theorem yl(l:Bs)(bsc bus bpw:Bs)(bhk:Int)(bhs:Bs)(bhn:Int)(bhp:List Int)(bport:Int)(bopq bpn:Bool)(bpl:List Bs)(bhq:Bool)(bq:Bs)(bhf:Bool)(bfg:Bs):bj Tryz.prog ay 30 [.str l,.ptr 0 0] [bD 0 bsc bus bpw bhk bhs bhn bhp bport bopq bpn bpl bhq bq bhf bfg] (l.length≤60000∧bpl.length≤100000∧(ab (an l) (an l) 0).2.2=false∧bopq=false∧bsc=fL∧az (aw bsc) (an l) 0=false∧bQ (an l)=false∧bm (an l)=false) (.tup [bD 0 (((RS.init (an l)).au (RS.mk bsc bus bpw bhk bhs bhn bhp bport bopq bpn bpl bhq bq bhf bfg false false []))).sc (((RS.init (an l)).au (RS.mk bsc bus bpw bhk bhs bhn bhp bport bopq bpn bpl bhq bq bhf bfg false false []))).us (((RS.init (an l)).au (RS.mk bsc bus bpw bhk bhs bhn bhp bport bopq bpn bpl bhq bq bhf bfg false false []))).pw (((RS.init (an l)).au (RS.mk bsc bus bpw bhk bhs bhn bhp bport bopq bpn bpl bhq bq bhf bfg false false []))).hk (((RS.init (an l)).au (RS.mk bsc bus bpw bhk bhs bhn bhp bport bopq bpn bpl bhq bq bhf bfg false false []))).hs (((RS.init (an l)).au (RS.mk bsc bus bpw bhk bhs bhn bhp bport bopq bpn bpl bhq bq bhf bfg false false []))).hn (((RS.init (an l)).au (RS.mk bsc bus bpw bhk bhs bhn bhp bport bopq bpn bpl bhq bq bhf bfg false false []))).hp (((RS.init (an l)).au (RS.mk bsc bus bpw bhk bhs bhn bhp bport bopq bpn bpl bhq bq bhf bfg false false []))).port (((RS.init (an l)).au (RS.mk bsc bus bpw bhk bhs bhn bhp bport bopq bpn bpl bhq bq bhf bfg false false []))).opq (((RS.init (an l)).au (RS.mk bsc bus bpw bhk bhs bhn bhp bport bopq bpn bpl bhq bq bhf bfg false false []))).pn (((RS.init (an l)).au (RS.mk bsc bus bpw bhk bhs bhn bhp bport bopq bpn bpl bhq bq bhf bfg false false []))).pl (((RS.init (an l)).au (RS.mk bsc bus bpw bhk bhs bhn bhp bport bopq bpn bpl bhq bq bhf bfg false false []))).hq (((RS.init (an l)).au (RS.mk bsc bus bpw bhk bhs bhn bhp bport bopq bpn bpl bhq bq bhf bfg false false []))).q (((RS.init (an l)).au (RS.mk bsc bus bpw bhk bhs bhn bhp bport bopq bpn bpl bhq bq bhf bfg false false []))).hf (((RS.init (an l)).au (RS.mk bsc bus bpw bhk bhs bhn bhp bport bopq bpn bpl bhq bq bhf bfg false false []))).fg,.int .i64 0]) [bD 0 bsc bus bpw bhk bhs bhn bhp bport bopq bpn bpl bhq bq bhf bfg]:=bt (by kernel_rfl) yk (H:=yj l bsc bus bpw bhk bhs bhn bhp bport bopq bpn bpl bhq bq bhf bfg) (fuel:=1000) Tryz.func30 (by kernel_rfl) (Nat.le_of_ble_eq_true rfl) fun hpre=>(DP l bsc bus bpw bhk bhs bhn bhp bport bopq bpn bpl bhq bq bhf bfg _).mpr (by
 obtain ⟨h1,h2,h3,h4,h5,h6,h7,h8⟩:=hpre
 have hs:=tH l
 exact ⟨fun h=>absurd (of_decide_eq_true h) (by unfold ak;omega),fun _=>⟨h1,⟨by omega,h2,h3,h4,h5,h6,h7,h8⟩,(fun h=>absurd h (by decide)),fun _=>⟨rfl,rfl⟩⟩⟩)
theorem DQ(l:Bs)(bsc bus bpw:Bs)(bhk:Int)(bhs:Bs)(bhn:Int)(bhp:List Int)(bport:Int)(bopq bpn:Bool)(bpl:List Bs)(bhq:Bool)(bq:Bs)(bhf:Bool)(bfg:Bs):ag Tryz.prog ay 30 [.str l,.ptr 0 0,bD 0 bsc bus bpw bhk bhs bhn bhp bport bopq bpn bpl bhq bq bhf bfg] ⟨l.length≤60000∧bpl.length≤100000∧(ab (an l) (an l) 0).2.2=false∧bopq=false∧bsc=fL∧az (aw bsc) (an l) 0=false∧bQ (an l)=false∧bm (an l)=false,.tup [.tup [bD 0 (((RS.init (an l)).au (RS.mk bsc bus bpw bhk bhs bhn bhp bport bopq bpn bpl bhq bq bhf bfg false false []))).sc (((RS.init (an l)).au (RS.mk bsc bus bpw bhk bhs bhn bhp bport bopq bpn bpl bhq bq bhf bfg false false []))).us (((RS.init (an l)).au (RS.mk bsc bus bpw bhk bhs bhn bhp bport bopq bpn bpl bhq bq bhf bfg false false []))).pw (((RS.init (an l)).au (RS.mk bsc bus bpw bhk bhs bhn bhp bport bopq bpn bpl bhq bq bhf bfg false false []))).hk (((RS.init (an l)).au (RS.mk bsc bus bpw bhk bhs bhn bhp bport bopq bpn bpl bhq bq bhf bfg false false []))).hs (((RS.init (an l)).au (RS.mk bsc bus bpw bhk bhs bhn bhp bport bopq bpn bpl bhq bq bhf bfg false false []))).hn (((RS.init (an l)).au (RS.mk bsc bus bpw bhk bhs bhn bhp bport bopq bpn bpl bhq bq bhf bfg false false []))).hp (((RS.init (an l)).au (RS.mk bsc bus bpw bhk bhs bhn bhp bport bopq bpn bpl bhq bq bhf bfg false false []))).port (((RS.init (an l)).au (RS.mk bsc bus bpw bhk bhs bhn bhp bport bopq bpn bpl bhq bq bhf bfg false false []))).opq (((RS.init (an l)).au (RS.mk bsc bus bpw bhk bhs bhn bhp bport bopq bpn bpl bhq bq bhf bfg false false []))).pn (((RS.init (an l)).au (RS.mk bsc bus bpw bhk bhs bhn bhp bport bopq bpn bpl bhq bq bhf bfg false false []))).pl (((RS.init (an l)).au (RS.mk bsc bus bpw bhk bhs bhn bhp bport bopq bpn bpl bhq bq bhf bfg false false []))).hq (((RS.init (an l)).au (RS.mk bsc bus bpw bhk bhs bhn bhp bport bopq bpn bpl bhq bq bhf bfg false false []))).q (((RS.init (an l)).au (RS.mk bsc bus bpw bhk bhs bhn bhp bport bopq bpn bpl bhq bq bhf bfg false false []))).hf (((RS.init (an l)).au (RS.mk bsc bus bpw bhk bhs bhn bhp bport bopq bpn bpl bhq bq bhf bfg false false []))).fg,.int .i64 0],bD 0 bsc bus bpw bhk bhs bhn bhp bport bopq bpn bpl bhq bq bhf bfg]⟩:=ag.aZ (fun h=>by have e:List.isEmpty (PV.aA PV.br [.str l,.ptr 0 0,bD 0 bsc bus bpw bhk bhs bhn bhp bport bopq bpn bpl bhq bq bhf bfg])=false:=(by kernel_rfl);exact Bool.noConfusion (e.symm.trans (congrArg List.isEmpty h))) (yl l bsc bus bpw bhk bhs bhn bhp bport bopq bpn bpl bhq bq bhf bfg)
def lz:List PV→Option aI:=fun xs=>match xs with
 |[.str l,.ptr 0 0,bD 0 bsc bus bpw bhk bhs bhn bhp bport bopq bpn bpl bhq bq bhf bfg]=>some ⟨l.length≤60000∧bpl.length≤100000∧(ab (an l) (an l) 0).2.2=false∧bopq=false∧bsc=fL∧az (aw bsc) (an l) 0=false∧bQ (an l)=false∧bm (an l)=false,.tup [.tup [bD 0 (((RS.init (an l)).au (RS.mk bsc bus bpw bhk bhs bhn bhp bport bopq bpn bpl bhq bq bhf bfg false false []))).sc (((RS.init (an l)).au (RS.mk bsc bus bpw bhk bhs bhn bhp bport bopq bpn bpl bhq bq bhf bfg false false []))).us (((RS.init (an l)).au (RS.mk bsc bus bpw bhk bhs bhn bhp bport bopq bpn bpl bhq bq bhf bfg false false []))).pw (((RS.init (an l)).au (RS.mk bsc bus bpw bhk bhs bhn bhp bport bopq bpn bpl bhq bq bhf bfg false false []))).hk (((RS.init (an l)).au (RS.mk bsc bus bpw bhk bhs bhn bhp bport bopq bpn bpl bhq bq bhf bfg false false []))).hs (((RS.init (an l)).au (RS.mk bsc bus bpw bhk bhs bhn bhp bport bopq bpn bpl bhq bq bhf bfg false false []))).hn (((RS.init (an l)).au (RS.mk bsc bus bpw bhk bhs bhn bhp bport bopq bpn bpl bhq bq bhf bfg false false []))).hp (((RS.init (an l)).au (RS.mk bsc bus bpw bhk bhs bhn bhp bport bopq bpn bpl bhq bq bhf bfg false false []))).port (((RS.init (an l)).au (RS.mk bsc bus bpw bhk bhs bhn bhp bport bopq bpn bpl bhq bq bhf bfg false false []))).opq (((RS.init (an l)).au (RS.mk bsc bus bpw bhk bhs bhn bhp bport bopq bpn bpl bhq bq bhf bfg false false []))).pn (((RS.init (an l)).au (RS.mk bsc bus bpw bhk bhs bhn bhp bport bopq bpn bpl bhq bq bhf bfg false false []))).pl (((RS.init (an l)).au (RS.mk bsc bus bpw bhk bhs bhn bhp bport bopq bpn bpl bhq bq bhf bfg false false []))).hq (((RS.init (an l)).au (RS.mk bsc bus bpw bhk bhs bhn bhp bport bopq bpn bpl bhq bq bhf bfg false false []))).q (((RS.init (an l)).au (RS.mk bsc bus bpw bhk bhs bhn bhp bport bopq bpn bpl bhq bq bhf bfg false false []))).hf (((RS.init (an l)).au (RS.mk bsc bus bpw bhk bhs bhn bhp bport bopq bpn bpl bhq bq bhf bfg false false []))).fg,.int .i64 0],bD 0 bsc bus bpw bhk bhs bhn bhp bport bopq bpn bpl bhq bq bhf bfg]⟩
 |_=>none
theorem rX:∀xs c,lz xs=some c→ag Tryz.prog ay 30 xs c:=fun xs c h=>by
 unfold lz at h
 split at h
 ·injection h with h;subst h;exact DQ _ _ _ _ _ _ _ _ _ _ _ _ _ _ _ _
 ·cases h
end
section
def ym:cq:=bN [(30,lz)]
def yn(l:Bs)(bsc bus bpw:Bs)(bhk:Int)(bhs:Bs)(bhn:Int)(bhp:List Int)(bport:Int)(bopq bpn:Bool)(bpl:List Bs)(bhq:Bool)(bq:Bs)(bhf:Bool)(bfg:Bs):aY:=fun i=>none
theorem yo:cS Tryz.prog ay ym:=ai rX (ax)
theorem DR(l:Bs)(bsc bus bpw:Bs)(bhk:Int)(bhs:Bs)(bhn:Int)(bhp:List Int)(bport:Int)(bopq bpn:Bool)(bpl:List Bs)(bhq:Bool)(bq:Bs)(bhf:Bool)(bfg:Bs)(k:PV→Prop):cC Tryz.prog ym ay (yn l bsc bus bpw bhk bhs bhn bhp bport bopq bpn bpl bhq bq bhf bfg) 1000 Tryz.f21 [.str l,bD 0 bsc bus bpw bhk bhs bhn bhp bport bopq bpn bpl bhq bq bhf bfg] k=(
 (List.length l≤(60000:Nat)∧
 bpl.length≤(100000:Nat)∧
 (ab (an l) (an l)
 (0:Nat)).2.2=
 false∧
 bopq=false∧
 bsc=fL∧
 az (aw bsc) (an l) (0:Int)=
 false∧
 bQ (an l)=false∧
 bm (an l)=false)∧
 k
 (PV.tup
 [bD (0:Nat) ((RS.init (an l)).au
 (RS.mk bsc bus bpw bhk bhs bhn bhp bport bopq bpn bpl bhq bq bhf bfg false false [])).sc ((RS.init (an l)).au
 (RS.mk bsc bus bpw bhk bhs bhn bhp bport bopq bpn bpl bhq bq bhf bfg false false [])).us ((RS.init (an l)).au
 (RS.mk bsc bus bpw bhk bhs bhn bhp bport bopq bpn bpl bhq bq bhf bfg false false [])).pw ((RS.init (an l)).au
 (RS.mk bsc bus bpw bhk bhs bhn bhp bport bopq bpn bpl bhq bq bhf bfg false false [])).hk ((RS.init (an l)).au
 (RS.mk bsc bus bpw bhk bhs bhn bhp bport bopq bpn bpl bhq bq bhf bfg false false [])).hs ((RS.init (an l)).au
 (RS.mk bsc bus bpw bhk bhs bhn bhp bport bopq bpn bpl bhq bq bhf bfg false false [])).hn ((RS.init (an l)).au
 (RS.mk bsc bus bpw bhk bhs bhn bhp bport bopq bpn bpl bhq bq bhf bfg false false [])).hp ((RS.init (an l)).au
 (RS.mk bsc bus bpw bhk bhs bhn bhp bport bopq bpn bpl bhq bq bhf bfg false false [])).port ((RS.init (an l)).au
 (RS.mk bsc bus bpw bhk bhs bhn bhp bport bopq bpn bpl bhq bq bhf bfg false false [])).opq ((RS.init (an l)).au
 (RS.mk bsc bus bpw bhk bhs bhn bhp bport bopq bpn bpl bhq bq bhf bfg false false [])).pn ((RS.init (an l)).au
 (RS.mk bsc bus bpw bhk bhs bhn bhp bport bopq bpn bpl bhq bq bhf bfg false false [])).pl ((RS.init (an l)).au
 (RS.mk bsc bus bpw bhk bhs bhn bhp bport bopq bpn bpl bhq bq bhf bfg false false [])).hq ((RS.init (an l)).au
 (RS.mk bsc bus bpw bhk bhs bhn bhp bport bopq bpn bpl bhq bq bhf bfg false false [])).q ((RS.init (an l)).au
 (RS.mk bsc bus bpw bhk bhs bhn bhp bport bopq bpn bpl bhq bq bhf bfg false false [])).hf ((RS.init (an l)).au
 (RS.mk bsc bus bpw bhk bhs bhn bhp bport bopq bpn bpl bhq bq bhf bfg false false [])).fg,
 PV.int .i64 (0:Int)])):=by kernel_rfl
attribute [local irreducible] Go.Vc.cC
theorem DS(l:Bs)(bsc bus bpw:Bs)(bhk:Int)(bhs:Bs)(bhn:Int)(bhp:List Int)(bport:Int)(bopq bpn:Bool)(bpl:List Bs)(bhq:Bool)(bq:Bs)(bhf:Bool)(bfg:Bs):ag Tryz.prog ay 21 [.str l,bD 0 bsc bus bpw bhk bhs bhn bhp bport bopq bpn bpl bhq bq bhf bfg] ⟨l.length≤60000∧bpl.length≤100000∧(ab (an l) (an l) 0).2.2=false∧bopq=false∧bsc=fL∧az (aw bsc) (an l) 0=false∧bQ (an l)=false∧bm (an l)=false,.tup [bD 0 (((RS.init (an l)).au (RS.mk bsc bus bpw bhk bhs bhn bhp bport bopq bpn bpl bhq bq bhf bfg false false []))).sc (((RS.init (an l)).au (RS.mk bsc bus bpw bhk bhs bhn bhp bport bopq bpn bpl bhq bq bhf bfg false false []))).us (((RS.init (an l)).au (RS.mk bsc bus bpw bhk bhs bhn bhp bport bopq bpn bpl bhq bq bhf bfg false false []))).pw (((RS.init (an l)).au (RS.mk bsc bus bpw bhk bhs bhn bhp bport bopq bpn bpl bhq bq bhf bfg false false []))).hk (((RS.init (an l)).au (RS.mk bsc bus bpw bhk bhs bhn bhp bport bopq bpn bpl bhq bq bhf bfg false false []))).hs (((RS.init (an l)).au (RS.mk bsc bus bpw bhk bhs bhn bhp bport bopq bpn bpl bhq bq bhf bfg false false []))).hn (((RS.init (an l)).au (RS.mk bsc bus bpw bhk bhs bhn bhp bport bopq bpn bpl bhq bq bhf bfg false false []))).hp (((RS.init (an l)).au (RS.mk bsc bus bpw bhk bhs bhn bhp bport bopq bpn bpl bhq bq bhf bfg false false []))).port (((RS.init (an l)).au (RS.mk bsc bus bpw bhk bhs bhn bhp bport bopq bpn bpl bhq bq bhf bfg false false []))).opq (((RS.init (an l)).au (RS.mk bsc bus bpw bhk bhs bhn bhp bport bopq bpn bpl bhq bq bhf bfg false false []))).pn (((RS.init (an l)).au (RS.mk bsc bus bpw bhk bhs bhn bhp bport bopq bpn bpl bhq bq bhf bfg false false []))).pl (((RS.init (an l)).au (RS.mk bsc bus bpw bhk bhs bhn bhp bport bopq bpn bpl bhq bq bhf bfg false false []))).hq (((RS.init (an l)).au (RS.mk bsc bus bpw bhk bhs bhn bhp bport bopq bpn bpl bhq bq bhf bfg false false []))).q (((RS.init (an l)).au (RS.mk bsc bus bpw bhk bhs bhn bhp bport bopq bpn bpl bhq bq bhf bfg false false []))).hf (((RS.init (an l)).au (RS.mk bsc bus bpw bhk bhs bhn bhp bport bopq bpn bpl bhq bq bhf bfg false false []))).fg,.int .i64 0]⟩:=cj (by kernel_rfl) yo (H:=yn l bsc bus bpw bhk bhs bhn bhp bport bopq bpn bpl bhq bq bhf bfg) (fuel:=1000) Tryz.func21 (by kernel_rfl) fun hpre=>(DR l bsc bus bpw bhk bhs bhn bhp bport bopq bpn bpl bhq bq bhf bfg _).mpr (by
 exact ⟨hpre,rfl⟩)
end
section
attribute [local instance] Kn
noncomputable def cB(l:Bs):RS×Int:=Classical.choose (⟨bz l,rfl⟩:∃x,x=bz l)
theorem ko(l:Bs):cB l=bz l:=Classical.choose_spec (⟨bz l,rfl⟩:∃x,x=bz l)
noncomputable def cI(l:Bs)(b:RS):RS:=Classical.choose (⟨(RS.init (an l)).au b,rfl⟩:∃x,x=(RS.init (an l)).au b)
theorem yp(l:Bs)(b:RS):cI l b=(RS.init (an l)).au b:=Classical.choose_spec (⟨(RS.init (an l)).au b,rfl⟩:∃x,x=(RS.init (an l)).au b)
@[irreducible] def vB (l:Bs):Prop:=l.length≤60000
theorem DT(l:Bs):vB l=(l.length≤60000):=by unfold vB;rfl
@[irreducible] def IH (l:Bs) (bsc bus bpw:Bs) (bhk:Int) (bhs:Bs) (bhn:Int) (bhp:List Int) (bport:Int) (bopq bpn:Bool) (bpl:List Bs) (bhq:Bool) (bq:Bs) (bhf:Bool) (bfg:Bs):Prop:=l.length≤60000∧bpl.length≤100000∧(ab (an l) (an l) 0).2.2=false∧bopq=false∧bsc=fL∧az (aw bsc) (an l) 0=false∧bQ (an l)=false∧bm (an l)=false
theorem II(l:Bs)(bsc bus bpw:Bs)(bhk:Int)(bhs:Bs)(bhn:Int)(bhp:List Int)(bport:Int)(bopq bpn:Bool)(bpl:List Bs)(bhq:Bool)(bq:Bs)(bhf:Bool)(bfg:Bs):IH l bsc bus bpw bhk bhs bhn bhp bport bopq bpn bpl bhq bq bhf bfg=(l.length≤60000∧bpl.length≤100000∧(ab (an l) (an l) 0).2.2=false∧bopq=false∧bsc=fL∧az (aw bsc) (an l) 0=false∧bQ (an l)=false∧bm (an l)=false):=by unfold IH;rfl
theorem DU(l:Bs):ag Tryz.prog ay 19 [.str l] ⟨vB l,.tup [bD 0 ((cB l).1).sc ((cB l).1).us ((cB l).1).pw ((cB l).1).hk ((cB l).1).hs ((cB l).1).hn ((cB l).1).hp ((cB l).1).port ((cB l).1).opq ((cB l).1).pn ((cB l).1).pl ((cB l).1).hq ((cB l).1).q ((cB l).1).hf ((cB l).1).fg,.int .i64 (cB l).2]⟩:=(DL l).to (fun h=>by rw [DT]at h;exact h) (fun _=>by rw [ko])
noncomputable def jj:List PV→Option aI:=fun xs=>match xs with
 |[.str l]=>some ⟨vB l,.tup [bD 0 ((cB l).1).sc ((cB l).1).us ((cB l).1).pw ((cB l).1).hk ((cB l).1).hs ((cB l).1).hn ((cB l).1).hp ((cB l).1).port ((cB l).1).opq ((cB l).1).pn ((cB l).1).pl ((cB l).1).hq ((cB l).1).q ((cB l).1).hf ((cB l).1).fg,.int .i64 (cB l).2]⟩
 |_=>none
theorem kH:∀xs c,jj xs=some c→ag Tryz.prog ay 19 xs c:=fun xs c h=>by
 unfold jj at h
 split at h
 ·injection h with h;subst h;exact DU _
 ·cases h
theorem Gz(l:Bs)(bsc bus bpw:Bs)(bhk:Int)(bhs:Bs)(bhn:Int)(bhp:List Int)(bport:Int)(bopq bpn:Bool)(bpl:List Bs)(bhq:Bool)(bq:Bs)(bhf:Bool)(bfg:Bs):ag Tryz.prog ay 21 [.str l,bD 0 bsc bus bpw bhk bhs bhn bhp bport bopq bpn bpl bhq bq bhf bfg] ⟨IH l bsc bus bpw bhk bhs bhn bhp bport bopq bpn bpl bhq bq bhf bfg,.tup [bD 0 ((cI l (RS.mk bsc bus bpw bhk bhs bhn bhp bport bopq bpn bpl bhq bq bhf bfg false false []))).sc ((cI l (RS.mk bsc bus bpw bhk bhs bhn bhp bport bopq bpn bpl bhq bq bhf bfg false false []))).us ((cI l (RS.mk bsc bus bpw bhk bhs bhn bhp bport bopq bpn bpl bhq bq bhf bfg false false []))).pw ((cI l (RS.mk bsc bus bpw bhk bhs bhn bhp bport bopq bpn bpl bhq bq bhf bfg false false []))).hk ((cI l (RS.mk bsc bus bpw bhk bhs bhn bhp bport bopq bpn bpl bhq bq bhf bfg false false []))).hs ((cI l (RS.mk bsc bus bpw bhk bhs bhn bhp bport bopq bpn bpl bhq bq bhf bfg false false []))).hn ((cI l (RS.mk bsc bus bpw bhk bhs bhn bhp bport bopq bpn bpl bhq bq bhf bfg false false []))).hp ((cI l (RS.mk bsc bus bpw bhk bhs bhn bhp bport bopq bpn bpl bhq bq bhf bfg false false []))).port ((cI l (RS.mk bsc bus bpw bhk bhs bhn bhp bport bopq bpn bpl bhq bq bhf bfg false false []))).opq ((cI l (RS.mk bsc bus bpw bhk bhs bhn bhp bport bopq bpn bpl bhq bq bhf bfg false false []))).pn ((cI l (RS.mk bsc bus bpw bhk bhs bhn bhp bport bopq bpn bpl bhq bq bhf bfg false false []))).pl ((cI l (RS.mk bsc bus bpw bhk bhs bhn bhp bport bopq bpn bpl bhq bq bhf bfg false false []))).hq ((cI l (RS.mk bsc bus bpw bhk bhs bhn bhp bport bopq bpn bpl bhq bq bhf bfg false false []))).q ((cI l (RS.mk bsc bus bpw bhk bhs bhn bhp bport bopq bpn bpl bhq bq bhf bfg false false []))).hf ((cI l (RS.mk bsc bus bpw bhk bhs bhn bhp bport bopq bpn bpl bhq bq bhf bfg false false []))).fg,.int .i64 0]⟩:=(DS l bsc bus bpw bhk bhs bhn bhp bport bopq bpn bpl bhq bq bhf bfg).to (fun h=>by rw [II]at h;exact h) (fun _=>by rw [yp])
noncomputable def nT:List PV→Option aI:=fun xs=>match xs with
 |[.str l,bD 0 bsc bus bpw bhk bhs bhn bhp bport bopq bpn bpl bhq bq bhf bfg]=>some ⟨IH l bsc bus bpw bhk bhs bhn bhp bport bopq bpn bpl bhq bq bhf bfg,.tup [bD 0 ((cI l (RS.mk bsc bus bpw bhk bhs bhn bhp bport bopq bpn bpl bhq bq bhf bfg false false []))).sc ((cI l (RS.mk bsc bus bpw bhk bhs bhn bhp bport bopq bpn bpl bhq bq bhf bfg false false []))).us ((cI l (RS.mk bsc bus bpw bhk bhs bhn bhp bport bopq bpn bpl bhq bq bhf bfg false false []))).pw ((cI l (RS.mk bsc bus bpw bhk bhs bhn bhp bport bopq bpn bpl bhq bq bhf bfg false false []))).hk ((cI l (RS.mk bsc bus bpw bhk bhs bhn bhp bport bopq bpn bpl bhq bq bhf bfg false false []))).hs ((cI l (RS.mk bsc bus bpw bhk bhs bhn bhp bport bopq bpn bpl bhq bq bhf bfg false false []))).hn ((cI l (RS.mk bsc bus bpw bhk bhs bhn bhp bport bopq bpn bpl bhq bq bhf bfg false false []))).hp ((cI l (RS.mk bsc bus bpw bhk bhs bhn bhp bport bopq bpn bpl bhq bq bhf bfg false false []))).port ((cI l (RS.mk bsc bus bpw bhk bhs bhn bhp bport bopq bpn bpl bhq bq bhf bfg false false []))).opq ((cI l (RS.mk bsc bus bpw bhk bhs bhn bhp bport bopq bpn bpl bhq bq bhf bfg false false []))).pn ((cI l (RS.mk bsc bus bpw bhk bhs bhn bhp bport bopq bpn bpl bhq bq bhf bfg false false []))).pl ((cI l (RS.mk bsc bus bpw bhk bhs bhn bhp bport bopq bpn bpl bhq bq bhf bfg false false []))).hq ((cI l (RS.mk bsc bus bpw bhk bhs bhn bhp bport bopq bpn bpl bhq bq bhf bfg false false []))).q ((cI l (RS.mk bsc bus bpw bhk bhs bhn bhp bport bopq bpn bpl bhq bq bhf bfg false false []))).hf ((cI l (RS.mk bsc bus bpw bhk bhs bhn bhp bport bopq bpn bpl bhq bq bhf bfg false false []))).fg,.int .i64 0]⟩
 |_=>none
theorem vC:∀xs c,nT xs=some c→ag Tryz.prog ay 21 xs c:=fun xs c h=>by
 unfold nT at h
 split at h
 ·injection h with h;subst h;exact Gz _ _ _ _ _ _ _ _ _ _ _ _ _ _ _ _
 ·cases h
end
section
def Li:Bs:=[72,84,84,80,58,92,92,117,64,104,58,56,48,47,97,47,46,46,47,98,63]
def Lj:Bs:=[102,105,108,101,58,47,47,47,67,58,47,121]
def KV:Bs:=[46,46,92,120]
def aH:Bs:=[104,116,116,112]
def aV:Bs:=[119,115,115]
noncomputable def nU:RS×Int:=cB Li
noncomputable def nV:RS×Int:=cB Lj
noncomputable def aJ:RS:=cI KV (RS.mk nV.1.sc nV.1.us nV.1.pw nV.1.hk nV.1.hs nV.1.hn nV.1.hp nV.1.port nV.1.opq nV.1.pn nV.1.pl nV.1.hq nV.1.q nV.1.hf nV.1.fg false false [])
theorem Lo:nU.2=0∧nU.1.sc=aH∧nU.1.us=[117]∧nU.1.port=-1∧nU.1.pl=[[98]]∧nU.1.hq=true:=by
 unfold nU;rw [ko];decide+kernel
theorem Lq:nV.2=0∧nV.1.sc=fL∧nV.1.opq=false∧nV.1.pl.length≤100000:=by
 unfold nV;rw [ko];decide+kernel
theorem Lk:aJ.pl=[[67,58],[120]]:=by
 unfold aJ nV;rw [ko,yp];decide+kernel
noncomputable def BQ:cq:=bN [(19,jj),(21,nT),(27,dN)]
def BR:aY:=fun i=>none
theorem AA:cS Tryz.prog ay BQ:=ai kH (ai vC (ai dO (ax)))
theorem GA(k:PV→Prop):cC Tryz.prog BQ ay (BR) 1000 Tryz.f14 [] k=(
 Li.length.le (60000:Nat)∧Lj.length.le (60000:Nat)∧(KV.length≤(60000:Nat)∧nV.1.pl.length≤(100000:Nat)∧false=false∧nV.1.opq=false∧nV.1.sc=fL∧az (aw nV.1.sc) (an KV) (0:Int)=false∧bQ (an KV)=false∧bm (an KV)=false)∧True∧((bif bif bif bif decide (nU.2=(0:Int))then decide (nU.1.sc=aH)else false then decide (nU.1.us=([117]:Bs))else false then decide (nU.1.port=(-1:Int))else false then decide (Int.ofNat nU.1.pl.length=(1:Int))else false)=true→within (0:Int) (Int.ofNat nU.1.pl.length))∧((bif bif bif bif bif bif bif bif bif decide (nU.2=(0:Int))then decide (nU.1.sc=aH)else false then decide (nU.1.us=([117]:Bs))else false then decide (nU.1.port=(-1:Int))else false then decide (Int.ofNat nU.1.pl.length=(1:Int))else false then decide (dE nU.1.pl (0:Int)=([98]:Bs))else false then nU.1.hq else false then decide (nV.2=(0:Int))else false then decide ((0:Int)=(0:Int))else false then decide (Int.ofNat aJ.pl.length=(2:Int))else false)=true→within (1:Int) (Int.ofNat aJ.pl.length))∧k (PV.bool (bif bif bif bif bif bif bif bif bif bif bif bif decide (nU.2=(0:Int))then decide (nU.1.sc=aH)else false then decide (nU.1.us=([117]:Bs))else false then decide (nU.1.port=(-1:Int))else false then decide (Int.ofNat nU.1.pl.length=(1:Int))else false then decide (dE nU.1.pl (0:Int)=([98]:Bs))else false then nU.1.hq else false then decide (nV.2=(0:Int))else false then decide ((0:Int)=(0:Int))else false then decide (Int.ofNat aJ.pl.length=(2:Int))else false then decide (dE aJ.pl (1:Int)=([120]:Bs))else false then decide (Ht aV=(443:Int))else false then aw aV else false))):=by kernel_rfl
attribute [local irreducible] Go.Vc.cC
theorem GB:ag Tryz.prog ay 14 [] ⟨True,.bool true⟩:=cj (by kernel_rfl) AA (H:=BR) (fuel:=1000) Tryz.func14 (by kernel_rfl) fun hpre=>(GA _).mpr (by
 obtain ⟨h1,h2,h3,h4,h5,h6⟩:=Lo
 obtain ⟨g1,g2,g3,g4⟩:=Lq
 refine ⟨show(21:Nat)≤60000 by decide,show(12:Nat)≤60000 by decide,⟨show(4:Nat)≤60000 by decide,g4,rfl,g3,g2,by rw [g2];decide,by decide,by decide⟩,trivial,fun _=>by rw [h5];exact ⟨by decide,by decide⟩,fun _=>by rw [Lk];exact ⟨by decide,by decide⟩,?_⟩
 rw [h1,h2,h3,h4,h5,h6,g1,Lk]
 exact congrArg PV.bool (by decide+kernel))
def nW:List PV→Option aI:=fun xs=>match xs with
 |[]=>some ⟨True,.bool true⟩
 |_=>none
theorem vD:∀xs c,nW xs=some c→ag Tryz.prog ay 14 xs c:=fun xs c h=>by
 unfold nW at h
 split at h
 ·injection h with h;subst h;exact GB
 ·cases h
end
section
def pb:List Bs:=[[97],[64],[58],[37,52,49],[124],[195,169],[59],[61]]
def vG:List Bs:=[[97],[37,52,48],[37,51,65],[37,52,49],[37,55,67],[37,67,51,37,65,57],[37,51,66],[37,51,68]]
structure oW(n:Nat)(s pass user:Bs)(seen:Bool)(j:Nat):Prop where
 le:j≤n
 ok:tM s
 val:bO s=true
 sl:s.length≤3*j
 usr:user=aU 5 (cK s 58)
 pas:pass=aU 5 (cU s 58)
 pv:bO (cU s 58)=true
 sn:seen=decide (58∈s)
 ul:user.length≤9*j
 pl:pass.length≤9*j
def DV(n:Nat)(s pass user:Bs)(seen:Bool)(i:Int):Prop:=∃j:Nat,i=j∧oW n s pass user seen j
theorem KW {K:Int}(h0:0≤K)(h8:K<8):tM (dE pb K)∧bO (dE pb K)=true∧(dE pb K).length≤3∧(dE vG K).length≤6∧aU 5 (dE pb K)=dE vG K∧(K=2→dE pb K=[58])∧(K≠2→(58:UInt8)∉dE pb K):=by
 have key:∀g t:Bs,(∀b∈g,32<b.toNat∧b≠47∧b≠92∧b≠63∧b≠35)→bO g=true→g.length≤3→t.length≤6→aU 5 g=t→tM g∧bO g=true∧g.length≤3∧t.length≤6∧aU 5 g=t:=fun g t a b c d e=>⟨a,b,c,d,e⟩
 have:K=0∨K=1∨K=2∨K=3∨K=4∨K=5∨K=6∨K=7:=by omega
 have key2:tM (dE pb K)∧bO (dE pb K)=true∧(dE pb K).length≤3∧(dE vG K).length≤6∧aU 5 (dE pb K)=dE vG K:=by
  rcases this with rfl|rfl|rfl|rfl|rfl|rfl|rfl|rfl<;>exact key _ _ (by decide) (by decide+kernel) (by decide) (by decide) (by decide+kernel)
 refine ⟨key2.1,key2.2.1,key2.2.2.1,key2.2.2.2.1,key2.2.2.2.2,fun h=>by subst h;rfl,fun h=>?_⟩
 rcases this with rfl|rfl|rfl|rfl|rfl|rfl|rfl|rfl<;>first|exact absurd rfl h|decide
theorem oW.base {n:Nat}{s p u:Bs}{o:Bool}{j:Nat}(h:oW n s p u o j)(hj:j<n){g:Bs}(h1:tM g)(h2:bO g=true)(h3:g.length≤3):tM (s++g)∧bO (s++g)=true∧(s++g).length≤3*(j+1):=by
 refine ⟨fun b hb=>?_,by rw [iK h.val];exact h2,?_⟩
 ·rcases List.mem_append.1 hb with hb|hb
  ·exact h.ok b hb
  ·exact h1 b hb
 ·have:=h.sl
  rw [List.length_append];omega
theorem oW.colon {n:Nat}{s p u:Bs}{j:Nat}(h:oW n s p u false j)(hj:j<n):oW n (s++[58]) p u true (j+1):=by
 obtain ⟨b1,b2,b3⟩:=h.base hj (g:=[58]) (by unfold tM;decide) (by decide+kernel) (by decide)
 have hn:(58:UInt8)∉s:=of_decide_eq_false h.sn.symm
 have c1:=Aw hn
 have c2:=Av (y:=[]) hn
 have hu:=h.usr
 have hp:=h.pas
 rw [c1.1]at hu
 rw [c1.2]at hp
 exact ⟨by omega,b1,b2,b3,by rw [c2.1];exact hu,by rw [c2.2];exact hp,by rw [c2.2];decide+kernel,by simp,by have:=h.ul;omega,by have:=h.pl;omega⟩
theorem oW.pass {n:Nat}{s p u:Bs}{j:Nat}(h:oW n s p u true j)(hj:j<n){g t:Bs}(h1:tM g)(h2:bO g=true)(h3:g.length≤3)(h4:t.length≤6)(h5:aU 5 g=t):oW n (s++g) (p++t) u true (j+1):=by
 obtain ⟨b1,b2,b3⟩:=h.base hj h1 h2 h3
 obtain ⟨x,y,e,hx⟩:=List.eq_append_cons_of_mem (show(58:UInt8)∈s from of_decide_eq_true h.sn.symm)
 have c1:=Av (y:=y) hx
 have c2:=Av (y:=y++g) hx
 have e2:s++g=x++58::(y++g):=by rw [e,List.append_assoc];rfl
 have hv:=h.pv
 have hu:=h.usr
 have hp:=h.pas
 rw [←e]at c1
 rw [←e2]at c2
 rw [c1.1]at hu
 rw [c1.2]at hp hv
 exact ⟨by omega,b1,b2,b3,by rw [c2.1];exact hu,by rw [c2.2,yc 5 hv,h5,hp],by rw [c2.2,iK hv];exact h2,by rw [e];simp,by have:=h.ul;omega,by have:=h.pl;rw [List.length_append];omega⟩
theorem oW.user {n:Nat}{s p u:Bs}{j:Nat}(h:oW n s p u false j)(hj:j<n){g t:Bs}(h1:tM g)(h2:bO g=true)(h3:g.length≤3)(h4:t.length≤6)(h5:aU 5 g=t)(h6:(58:UInt8)∉g):oW n (s++g) p (u++t) false (j+1):=by
 obtain ⟨b1,b2,b3⟩:=h.base hj h1 h2 h3
 have hn:(58:UInt8)∉s:=of_decide_eq_false h.sn.symm
 have hn2:(58:UInt8)∉s++g:=fun e=>(List.mem_append.1 e).elim hn h6
 have c1:=Aw hn
 have c2:=Aw hn2
 have hu:=h.usr
 have hp:=h.pas
 rw [c1.1]at hu
 rw [c1.2]at hp
 exact ⟨by omega,b1,b2,b3,by rw [c2.1,yc 5 h.val,h5,hu],by rw [c2.2];exact hp,by rw [c2.2];decide+kernel,(decide_eq_false hn2).symm,by have:=h.ul;rw [List.length_append];omega,by have:=h.pl;omega⟩
noncomputable def yq:cq:=bN [(17,uE),(19,jj),(14,nW)]
def yr(nl:Bool)(ns:List Int):aY:=fun i=>bif Nat.beq i 7 then some ⟨(Bs)×(Bs)×(Bs)×(Bool)×(Int),(fun s x=>(((((((((s.put 5 (.str x.1)).put 6 (.str x.2.1)).put 7 (.str x.2.2.1)).put 8 (.bool x.2.2.2.1)).put 9 (.int .i64 x.2.2.2.2)).put 10 .undef).put 24 .undef).put 44 .undef).put 51 .undef)),(fun s=>(s.str 5,s.str 6,s.str 7,s.bool 8,s.int 9)),(fun s x=>let q:=x.1;let u:=x.2.1;let w:=x.2.2.1;let o:=x.2.2.2.1;let i:=x.2.2.2.2;DV ns.length q w u o i),(fun s x=>let q:=x.1;let u:=x.2.1;let w:=x.2.2.1;let o:=x.2.2.2.1;let i:=x.2.2.2.2;((ns.length:Int)-i).toNat),[10,24,44,51]⟩else none
theorem yu:cS Tryz.prog ay yq:=ai zw (ai kH (ai vD (ax)))
theorem DW(nl:Bool)(ns:List Int)(k:PV→Prop):cC Tryz.prog yq ay (yr nl ns) 1000 Tryz.f8 [.row nl (.ints .i64 ns) 0] k=(
 (decide ((12:Int)<Int.ofNat ns.length)=true→True∧k (PV.bool true))∧(decide ((12:Int)<Int.ofNat ns.length)=false→VS.mk [] [(0,PV.row nl (aq.ints .i64 ns) (0:Nat)),(2,PV.bool false),(3,PV.row false (aq.strs pb) (0:Nat)),(4,PV.row false (aq.strs vG) (0:Nat)),(5,PV.str ([]:Bs)),(6,PV.str ([]:Bs)),(7,PV.str ([]:Bs)),(8,PV.bool false),(9,PV.int .i64 (0:Int)),((10:Nat),PV.undef),(11,PV.undef),(12,PV.undef),(14,PV.undef),(17,PV.bool (decide ((12:Int)<Int.ofNat ns.length))),((24:Nat),PV.undef),((44:Nat),PV.undef),((51:Nat),PV.undef)] []=VS.mk [] [(0,PV.row nl (aq.ints .i64 ns) (0:Nat)),(2,PV.bool false),(3,PV.row false (aq.strs pb) (0:Nat)),(4,PV.row false (aq.strs vG) (0:Nat)),((5:Nat),PV.str ([]:Bs)),((6:Nat),PV.str ([]:Bs)),((7:Nat),PV.str ([]:Bs)),((8:Nat),PV.bool false),((9:Nat),PV.int .i64 (0:Int)),((10:Nat),PV.undef),(11,PV.undef),(12,PV.undef),(14,PV.undef),(17,PV.bool (decide ((12:Int)<Int.ofNat ns.length))),((24:Nat),PV.undef),((44:Nat),PV.undef),((51:Nat),PV.undef)] []∧DV ns.length ([]:Bs) ([]:Bs) ([]:Bs) false (0:Int)∧∀(x:Bs×Bs×Bs×Bool×Int),DV ns.length x.1 x.2.2.1 x.2.1 x.2.2.2.1 x.2.2.2.2→(decide (x.2.2.2.2<Int.ofNat ns.length)=true→within x.2.2.2.2 (Int.ofNat ns.length)∧((-9223372036854775808:Int)≤fa ns x.2.2.2.2∧fa ns x.2.2.2.2≤(9223372036854775807:Int)∧(1:Int)≤(8:Int)∧(8:Int)≤(4611686018427387904:Int))∧within (fN (fa ns x.2.2.2.2) (8:Int)) (Int.ofNat pb.length)∧List.length x.1+List.length (dE pb (fN (fa ns x.2.2.2.2) (8:Int)))≤Go.Vc.maxLen∧((bif decide (fN (fa ns x.2.2.2.2) (8:Int)=(2:Int))then !x.2.2.2.1 else false)=true→aD (x.2.2.2.2+(1:Int))∧r6 (VS.mk [] [(0,PV.row nl (aq.ints .i64 ns) (0:Nat)),(2,PV.bool false),(3,PV.row false (aq.strs pb) (0:Nat)),(4,PV.row false (aq.strs vG) (0:Nat)),((5:Nat),PV.str (x.1++dE pb (fN (fa ns x.2.2.2.2) (8:Int)))),((6:Nat),PV.str x.2.1),((7:Nat),PV.str x.2.2.1),((8:Nat),PV.bool true),((9:Nat),PV.int .i64 (x.2.2.2.2+(1:Int))),((10:Nat),PV.undef),(11,PV.undef),(12,PV.undef),(14,PV.undef),(17,PV.bool (decide ((12:Int)<Int.ofNat ns.length))),((24:Nat),PV.undef),((44:Nat),PV.undef),((51:Nat),PV.undef)] [])∧DV ns.length (x.1++dE pb (fN (fa ns x.2.2.2.2) (8:Int))) x.2.2.1 x.2.1 true (x.2.2.2.2+(1:Int))∧(↑ns.length-(x.2.2.2.2+(1:Int))).toNat<(↑ns.length-x.2.2.2.2).toNat)∧((bif decide (fN (fa ns x.2.2.2.2) (8:Int)=(2:Int))then !x.2.2.2.1 else false)=false→(x.2.2.2.1=true→within (fN (fa ns x.2.2.2.2) (8:Int)) (Int.ofNat vG.length)∧List.length x.2.2.1+List.length (dE vG (fN (fa ns x.2.2.2.2) (8:Int)))≤Go.Vc.maxLen∧aD (x.2.2.2.2+(1:Int))∧r6 (VS.mk [] [(0,PV.row nl (aq.ints .i64 ns) (0:Nat)),(2,PV.bool false),(3,PV.row false (aq.strs pb) (0:Nat)),(4,PV.row false (aq.strs vG) (0:Nat)),((5:Nat),PV.str (x.1++dE pb (fN (fa ns x.2.2.2.2) (8:Int)))),((6:Nat),PV.str x.2.1),((7:Nat),PV.str (x.2.2.1++dE vG (fN (fa ns x.2.2.2.2) (8:Int)))),((8:Nat),PV.bool x.2.2.2.1),((9:Nat),PV.int .i64 (x.2.2.2.2+(1:Int))),((10:Nat),PV.undef),(11,PV.undef),(12,PV.undef),(14,PV.undef),(17,PV.bool (decide ((12:Int)<Int.ofNat ns.length))),((24:Nat),PV.undef),((44:Nat),PV.undef),((51:Nat),PV.undef)] [])∧DV ns.length (x.1++dE pb (fN (fa ns x.2.2.2.2) (8:Int))) (x.2.2.1++dE vG (fN (fa ns x.2.2.2.2) (8:Int))) x.2.1 x.2.2.2.1 (x.2.2.2.2+(1:Int))∧(↑ns.length-(x.2.2.2.2+(1:Int))).toNat<(↑ns.length-x.2.2.2.2).toNat)∧(x.2.2.2.1=false→within (fN (fa ns x.2.2.2.2) (8:Int)) (Int.ofNat vG.length)∧List.length x.2.1+List.length (dE vG (fN (fa ns x.2.2.2.2) (8:Int)))≤Go.Vc.maxLen∧aD (x.2.2.2.2+(1:Int))∧r6 (VS.mk [] [(0,PV.row nl (aq.ints .i64 ns) (0:Nat)),(2,PV.bool false),(3,PV.row false (aq.strs pb) (0:Nat)),(4,PV.row false (aq.strs vG) (0:Nat)),((5:Nat),PV.str (x.1++dE pb (fN (fa ns x.2.2.2.2) (8:Int)))),((6:Nat),PV.str (x.2.1++dE vG (fN (fa ns x.2.2.2.2) (8:Int)))),((7:Nat),PV.str x.2.2.1),((8:Nat),PV.bool x.2.2.2.1),((9:Nat),PV.int .i64 (x.2.2.2.2+(1:Int))),((10:Nat),PV.undef),(11,PV.undef),(12,PV.undef),(14,PV.undef),(17,PV.bool (decide ((12:Int)<Int.ofNat ns.length))),((24:Nat),PV.undef),((44:Nat),PV.undef),((51:Nat),PV.undef)] [])∧DV ns.length (x.1++dE pb (fN (fa ns x.2.2.2.2) (8:Int))) x.2.2.1 (x.2.1++dE vG (fN (fa ns x.2.2.2.2) (8:Int))) x.2.2.2.1 (x.2.2.2.2+(1:Int))∧(↑ns.length-(x.2.2.2.2+(1:Int))).toNat<(↑ns.length-x.2.2.2.2).toNat)))∧(decide (x.2.2.2.2<Int.ofNat ns.length)=false→([104,116,116,112,115,58,47,47]:Bs).length+List.length x.1≤Go.Vc.maxLen∧List.length (([104,116,116,112,115,58,47,47]:Bs)++x.1)+([64,104,47]:Bs).length≤Go.Vc.maxLen∧(List.length (([104,116,116,112,115,58,47,47]:Bs)++x.1++([64,104,47]:Bs))).le (60000:Nat)∧([104,116,116,112,115,58,47,47]:Bs).length+List.length x.1≤Go.Vc.maxLen∧List.length (([104,116,116,112,115,58,47,47]:Bs)++x.1)+([64,47]:Bs).length≤Go.Vc.maxLen∧(List.length (([104,116,116,112,115,58,47,47]:Bs)++x.1++([64,47]:Bs))).le (60000:Nat)∧((bif bif bif bif decide ((cB (([104,116,116,112,115,58,47,47]:Bs)++x.1++([64,104,47]:Bs))).2=(0:Int))then decide ((cB (([104,116,116,112,115,58,47,47]:Bs)++x.1++([64,104,47]:Bs))).1.us=x.2.1)else false then decide ((cB (([104,116,116,112,115,58,47,47]:Bs)++x.1++([64,104,47]:Bs))).1.pw=x.2.2.1)else false then Bool.rec false (decide ((cB (([104,116,116,112,115,58,47,47]:Bs)++x.1++([64,104,47]:Bs))).1.hs=([104]:Bs))&&(decide ((cB (([104,116,116,112,115,58,47,47]:Bs)++x.1++([64,104,47]:Bs))).1.hn=(0:Int))&&(decide ((cB (([104,116,116,112,115,58,47,47]:Bs)++x.1++([64,104,47]:Bs))).1.hp=List.replicate (8:Nat) (0:Int))&&true))) (decide ((cB (([104,116,116,112,115,58,47,47]:Bs)++x.1++([64,104,47]:Bs))).1.hk=(2:Int)))else false then decide ((cB (([104,116,116,112,115,58,47,47]:Bs)++x.1++([64,47]:Bs))).2=(8:Int))else false)=true→True)∧k (PV.bool (bif bif bif bif bif decide ((cB (([104,116,116,112,115,58,47,47]:Bs)++x.1++([64,104,47]:Bs))).2=(0:Int))then decide ((cB (([104,116,116,112,115,58,47,47]:Bs)++x.1++([64,104,47]:Bs))).1.us=x.2.1)else false then decide ((cB (([104,116,116,112,115,58,47,47]:Bs)++x.1++([64,104,47]:Bs))).1.pw=x.2.2.1)else false then Bool.rec false (decide ((cB (([104,116,116,112,115,58,47,47]:Bs)++x.1++([64,104,47]:Bs))).1.hs=([104]:Bs))&&(decide ((cB (([104,116,116,112,115,58,47,47]:Bs)++x.1++([64,104,47]:Bs))).1.hn=(0:Int))&&(decide ((cB (([104,116,116,112,115,58,47,47]:Bs)++x.1++([64,104,47]:Bs))).1.hp=List.replicate (8:Nat) (0:Int))&&true))) (decide ((cB (([104,116,116,112,115,58,47,47]:Bs)++x.1++([64,104,47]:Bs))).1.hk=(2:Int)))else false then decide ((cB (([104,116,116,112,115,58,47,47]:Bs)++x.1++([64,47]:Bs))).2=(8:Int))else false then true else false))))):=by kernel_rfl
attribute [local irreducible] Go.Vc.cC
theorem DX(nl:Bool)(ns:List Int):ag Tryz.prog ay 8 [.row nl (.ints .i64 ns) 0] ⟨∀z∈ns,-9223372036854775808≤z∧z≤9223372036854775807,.bool true⟩:=cj (by kernel_rfl) yu (H:=yr nl ns) (fuel:=1000) Tryz.func8 (by kernel_rfl) fun hpre=>(DW nl ns _).mpr (by
 have hns:=hpre
 have mx:∀n:Nat,n≤1000→n≤Go.Vc.maxLen:=fun n h=>Nat.le_trans h (by decide)
 have hof:Int.ofNat ns.length=(ns.length:Int):=rfl
 rw [hof]
 refine ⟨fun _=>⟨trivial,rfl⟩,fun h=>?_⟩
 have hn:ns.length≤12:=by have:=of_decide_eq_false h;omega
 refine ⟨rfl,⟨0,rfl,⟨by omega,(fun b hb=>by cases hb),by decide+kernel,by decide,by decide+kernel,by decide+kernel,by decide+kernel,by decide,by decide,by decide⟩⟩,fun x hx=>?_⟩
 obtain ⟨s,u,p,o,i⟩:=x
 obtain ⟨j,hi,hJ⟩:=hx
 dsimp only at hi hJ⊢
 subst hi
 have hsl:=hJ.sl
 have hul:=hJ.ul
 have hpl:=hJ.pl
 have hle:=hJ.le
 refine ⟨fun h=>?_,fun h=>?_⟩
 ·have hj:j<ns.length:=by have:=of_decide_eq_true h;omega
  have hzm:fa ns (j:Int)∈ns:=by
   unfold fa
   rw [Int.toNat_natCast,List.getD_eq_getElem?_getD,List.getElem?_eq_getElem hj]
   exact List.getElem_mem hj
  have hlow:-9223372036854775808≤fa ns (j:Int)∧fa ns (j:Int)≤9223372036854775807∧(1:Int)≤8∧(8:Int)≤4611686018427387904:=⟨(hns _ hzm).1,(hns _ hzm).2,by decide,by decide⟩
  have hK:=Bj (fa ns (j:Int)) 8 (by omega)
  generalize fN (fa ns (j:Int)) 8=K at *
  obtain ⟨g1,g2,g3,g4,g5,g6,g7⟩:=KW hK.1 hK.2
  have hKs:within K (Int.ofNat pb.length):=hK
  have hKt:within K (Int.ofNat vG.length):=hK
  have hij:aD ((j:Int)+1):=by unfold aD;omega
  have hms:((ns.length:Int)-((j:Int)+1)).toNat<((ns.length:Int)-(j:Int)).toNat:=by omega
  have cst:(j:Int)+1=((j+1:Nat):Int):=by push_cast;rfl
  refine ⟨⟨by omega,by omega⟩,hlow,hKs,mx _ (by omega),fun hc=>⟨hij,rfl,⟨j+1,cst,?_⟩,hms⟩,fun hc=>⟨fun ho=>⟨hKt,mx _ (by omega),hij,rfl,⟨j+1,cst,?_⟩,hms⟩,fun ho=>⟨hKt,mx _ (by omega),hij,rfl,⟨j+1,cst,?_⟩,hms⟩⟩⟩
  ·rw [Fi,Bool.and_eq_true,decide_eq_true_eq,Bool.not_eq_true']at hc
   obtain ⟨rfl,ho⟩:=hc
   rw [ho]at hJ
   rw [g6 rfl]
   exact hJ.colon hj
  ·rw [ho]at hJ⊢
   exact hJ.pass hj g1 g2 g3 g4 g5
  ·rw [ho]at hJ hc⊢
   refine hJ.user hj g1 g2 g3 g4 g5 (g7 fun e=>?_)
   rw [decide_eq_true e]at hc;cases hc
 ·obtain ⟨u1,u2,u3,u4,u5,u6,u7,u8⟩:=DN hJ.ok hJ.val
  have e1:cB (([104,116,116,112,115,58,47,47]:Bs)++s++([64,104,47]:Bs))=bz (rk++58::47::47::(s++64::[104,47])):=by rw [ko];exact congrArg bz (by simp [rk])
  have e2:cB (([104,116,116,112,115,58,47,47]:Bs)++s++([64,47]:Bs))=bz (rk++58::47::47::(s++64::[47])):=by rw [ko];exact congrArg bz (by simp [rk])
  rw [e1,e2]
  have l1:∀g:Bs,g.length≤3→(([104,116,116,112,115,58,47,47]:Bs)++s).length+g.length≤100∧(([104,116,116,112,115,58,47,47]:Bs)++s++g).length≤100:=fun g hg=>by
   simp only [List.length_append]
   show 8+s.length+g.length≤100∧8+s.length+g.length≤100
   omega
  have a1:=l1 [64,104,47] (by decide)
  have a2:=l1 [64,47] (by decide)
  refine ⟨mx _ (show 8+s.length≤1000 by omega),mx _ (by omega),show _ ≤60000 by omega,mx _ (show 8+s.length≤1000 by omega),mx _ (by omega),show _ ≤60000 by omega,fun _=>trivial,?_⟩
  have hu:=hJ.usr
  have hp:=hJ.pas
  rw [u1,u2,u3,u4,u5,u6,u7,u8,←hu,←hp,decide_eq_true (rfl:u=u),decide_eq_true (rfl:p=p)]
  rfl)
end
end Go.Proofs.YtmfapopclbnlpaaGreatDoor
