/- Layer 4, RingOrder: its walk stands in RingAll. -/
import Derived.Test.YtbbnfbclbhkneaaRingAll
