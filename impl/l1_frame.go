package impl

import (
	"slices"
	"strconv"
	"strings"
)

const MaxStations = 12
const MaxData = 16
const MaxBits = 400

const (
	greatestPriority = 7
	greatestByte     = 255
	maxBytes         = 40
	headBytes        = 2
	checkBytes       = 1
	bitsOfByte       = 8
	bitsOfFlag       = 8
	onesInARow       = 5
	checkPolynomial  = 1<<8 | 1<<2 | 1<<1 | 1
	maxBlindBytes    = 6
	maxBlindFlips    = 4
	hexDigits        = "0123456789abcdef"
)

var flagBits = [bitsOfFlag]int{0, 1, 1, 1, 1, 1, 1, 0}

type Frame struct {
	From     int
	To       int
	Priority int
	Data     []int
}

// IsFrame reports whether f is a frame.
func IsFrame(f Frame) bool {
	return isWithin(f.From, 0, MaxStations-1) && isWithin(f.To, 0, MaxStations-1) &&
		isWithin(f.Priority, 0, greatestPriority) &&
		len(f.Data) <= MaxData && areBytes(f.Data)
}

// BytesOf returns the bytes of a frame.
func BytesOf(f Frame) ([]int, bool) {
	if !IsFrame(f) {
		return nil, false
	}
	return bytesOfFrame(f), true
}

// FrameOf returns the frame with given bytes. It fails if there is none.
func FrameOf(list []int) (Frame, bool) {
	if checked, ok := HasCheck(list); !ok || !checked || len(list) < headBytes+checkBytes {
		return Frame{}, false
	}
	head := [headBytes]int(list[:headBytes])
	f := Frame{
		From:     head[0] / 16,
		To:       head[0] % 16,
		Priority: head[1] / 32,
		Data:     slices.Clone(list[headBytes : len(list)-checkBytes]),
	}
	// The head made anew tells the number of data that are there, which need not be the number told.
	if !IsFrame(f) || headOf(f) != head {
		return Frame{}, false
	}
	return f, true
}

// CheckOf returns the check of bytes.
func CheckOf(list []int) (int, bool) {
	if !areBytes(list) {
		return 0, false
	}
	return checkOfBytes(list), true
}

// HasCheck reports whether the last one of at least one byte is the check of all others.
func HasCheck(list []int) (bool, bool) {
	if len(list) == 0 || !areBytes(list) {
		return false, false
	}
	last := len(list) - 1
	return list[last] == checkOfBytes(list[:last]), true
}

// BitsOf returns the bits of bytes.
func BitsOf(list []int) ([]int, bool) {
	if !areBytes(list) {
		return nil, false
	}
	return bitsOfBytes(list), true
}

// FromBits returns the bytes with given bits. It fails if these are not as many as bytes have.
func FromBits(bits []int) ([]int, bool) {
	if !areBits(bits) || len(bits)%bitsOfByte != 0 || len(bits) > maxBytes*bitsOfByte {
		return nil, false
	}
	list := make([]int, len(bits)/bitsOfByte)
	for i, bit := range bits {
		list[i/bitsOfByte] = list[i/bitsOfByte]*2 + bit
	}
	return list, true
}

// StuffBits returns the stuffed bits. It fails if these are more than MaxBits.
func StuffBits(bits []int) ([]int, bool) {
	if !areBits(bits) {
		return nil, false
	}
	stuffed := stuffedBits(bits)
	if len(stuffed) > MaxBits {
		return nil, false
	}
	return stuffed, true
}

// UnstuffBits returns the bits whose StuffBits are given. It fails if there are none.
func UnstuffBits(bits []int) ([]int, bool) {
	if !areBits(bits) {
		return nil, false
	}
	plain := make([]int, 0, len(bits))
	ones := 0
	for _, bit := range bits {
		if ones < onesInARow {
			plain = append(plain, bit)
			ones = onesBehind(ones, bit)
		} else if bit == 0 {
			ones = 0
		} else {
			return nil, false
		}
	}
	if ones == onesInARow {
		return nil, false
	}
	return plain, true
}

// WireOf returns the bits of a frame on the wire.
func WireOf(f Frame) ([]int, bool) {
	if !IsFrame(f) {
		return nil, false
	}
	flag := flagBits
	return slices.Concat(flag[:], stuffedBits(bitsOfBytes(bytesOfFrame(f))), flag[:]), true
}

// FramesOnWire returns all frames on a wire, in order: of what is between two flags, next to each other
// among all places where a flag begins, that which is not empty, whose UnstuffBits are those of a
// frame's bytes, is one; other bits are passed over.
func FramesOnWire(bits []int) ([]Frame, bool) {
	if !areBits(bits) {
		return nil, false
	}
	frames := []Frame{}
	places := flagPlaces(bits)
	for i := 1; i < len(places); i++ {
		begin, end := places[i-1]+bitsOfFlag, places[i]
		if begin >= end { // flags may share a bit
			continue
		}
		if f, ok := frameOfStuffed(bits[begin:end:end]); ok {
			frames = append(frames, f)
		}
	}
	return frames, true
}

// FlipBits returns bytes in whose bits those at given places, a strictly increasing list, are the others.
func FlipBits(list []int, places []int) ([]int, bool) {
	if !areBytes(list) || !arePlaces(places, len(list)*bitsOfByte) {
		return nil, false
	}
	flipped := slices.Clone(list)
	for _, p := range places {
		flipped[p/bitsOfByte] ^= 1 << (bitsOfByte - 1 - p%bitsOfByte)
	}
	return flipped, true
}

// DistanceOf returns at how many places the bits of two lists of as many bytes are different.
func DistanceOf(a []int, b []int) (int, bool) {
	if !areBytes(a) || !areBytes(b) || len(a) != len(b) {
		return 0, false
	}
	distance := 0
	for i := range a {
		for rest := a[i] ^ b[i]; rest > 0; rest /= 2 {
			distance += rest % 2
		}
	}
	return distance, true
}

// FirstBlind returns the lexicographically first list of flips places, flips in 1..4, at which the bits
// of n bytes with a check, n in 1..6, can be flipped without HasCheck finding it. It fails if there is
// none: for 1 to 3 flips there never is one.
func FirstBlind(n int, flips int) ([]int, bool) {
	if !isWithin(n, 1, maxBlindBytes) || !isWithin(flips, 1, maxBlindFlips) {
		return nil, false
	}
	return firstCancelled(placeChecks(n+checkBytes), 0, flips, 0)
}

// CountBlind returns how many such lists there are.
func CountBlind(n int, flips int) (int, bool) {
	if !isWithin(n, 1, maxBlindBytes) || !isWithin(flips, 1, maxBlindFlips) {
		return 0, false
	}
	return countCancelled(placeChecks(n+checkBytes), 0, flips, 0), true
}

// FrameText returns From, `>`, To, `:`, Priority, `:`, and the Data as two letters of 0 to 9 and a to f
// for each byte.
func FrameText(f Frame) (string, bool) {
	if !IsFrame(f) {
		return "", false
	}
	return strconv.Itoa(f.From) + ">" + strconv.Itoa(f.To) + ":" + strconv.Itoa(f.Priority) + ":" + hexText(f.Data), true
}

// ParseFrame returns the frame with a FrameText. It fails if there is none.
func ParseFrame(s string) (Frame, bool) {
	from, s1, ok1 := strings.Cut(s, ">")
	to, s2, ok2 := strings.Cut(s1, ":")
	priority, hex, ok3 := strings.Cut(s2, ":")
	data, ok4 := parseHex(hex)
	if !ok1 || !ok2 || !ok3 || !ok4 {
		return Frame{}, false
	}
	var f Frame
	var err1, err2, err3 error
	f.From, err1 = strconv.Atoi(from)
	f.To, err2 = strconv.Atoi(to)
	f.Priority, err3 = strconv.Atoi(priority)
	f.Data = data
	if err1 != nil || err2 != nil || err3 != nil {
		return Frame{}, false
	}
	// Atoi also takes signs and superfluous zeros, which no FrameText has.
	if text, ok := FrameText(f); !ok || text != s {
		return Frame{}, false
	}
	return f, true
}

func isWithin(n int, least int, greatest int) bool {
	return least <= n && n <= greatest
}

func areBytes(list []int) bool {
	return len(list) <= maxBytes && areAllUpTo(list, greatestByte)
}

func areBits(list []int) bool {
	return len(list) <= MaxBits && areAllUpTo(list, 1)
}

func areAllUpTo(list []int, greatest int) bool {
	for _, n := range list {
		if !isWithin(n, 0, greatest) {
			return false
		}
	}
	return true
}

// arePlaces reports whether a list is strictly increasing places of so many bits.
func arePlaces(list []int, bits int) bool {
	next := 0
	for _, p := range list {
		if !isWithin(p, next, bits-1) {
			return false
		}
		next = p + 1
	}
	return true
}

func headOf(f Frame) [headBytes]int {
	return [headBytes]int{f.From*16 + f.To, f.Priority*32 + len(f.Data)}
}

func bytesOfFrame(f Frame) []int {
	head := headOf(f)
	list := slices.Concat(head[:], f.Data)
	return append(list, checkOfBytes(list))
}

// timesX returns the remainder of a polynomial of a degree below 8, times x.
func timesX(polynomial int) int {
	polynomial *= 2
	if polynomial > greatestByte {
		polynomial ^= checkPolynomial
	}
	return polynomial
}

func checkOfBytes(list []int) int {
	check := 0
	for _, b := range list {
		check ^= b
		for range bitsOfByte {
			check = timesX(check)
		}
	}
	return check
}

func bitsOfBytes(list []int) []int {
	bits := make([]int, 0, len(list)*bitsOfByte)
	for _, b := range list {
		for power := bitsOfByte - 1; power >= 0; power-- {
			bits = append(bits, b>>power&1)
		}
	}
	return bits
}

// onesBehind returns how many ones next to each other there are behind a bit, with so many before it.
func onesBehind(ones int, bit int) int {
	if bit == 0 {
		return 0
	}
	return ones + 1
}

func stuffedBits(bits []int) []int {
	stuffed := make([]int, 0, len(bits)+len(bits)/onesInARow)
	ones := 0
	for _, bit := range bits {
		stuffed = append(stuffed, bit)
		ones = onesBehind(ones, bit)
		if ones == onesInARow {
			stuffed = append(stuffed, 0)
			ones = 0
		}
	}
	return stuffed
}

// flagPlaces returns all places of bits where a flag begins.
func flagPlaces(bits []int) []int {
	var places []int
	for p := 0; p+bitsOfFlag <= len(bits); p++ {
		if [bitsOfFlag]int(bits[p:p+bitsOfFlag]) == flagBits {
			places = append(places, p)
		}
	}
	return places
}

func frameOfStuffed(bits []int) (Frame, bool) {
	plain, ok := UnstuffBits(bits)
	if !ok {
		return Frame{}, false
	}
	list, ok := FromBits(plain)
	if !ok {
		return Frame{}, false
	}
	return FrameOf(list)
}

// placeChecks returns for each bit of n bytes, the last one of which is the check, what it adds to the
// remainder. The check is a sum over 0 and 1, so that flips are blind exactly if what they add cancels
// out, whatever the bytes are.
func placeChecks(n int) []int {
	checks := make([]int, n*bitsOfByte)
	power := 1
	for p := len(checks) - 1; p >= 0; p-- {
		checks[p] = power
		power = timesX(power)
	}
	return checks
}

// firstCancelled returns the lexicographically first list of flips places, from a first one on, whose
// checks sum up to sum.
func firstCancelled(checks []int, first int, flips int, sum int) ([]int, bool) {
	if flips == 0 {
		return nil, sum == 0
	}
	for p := first; p < len(checks); p++ {
		if rest, ok := firstCancelled(checks, p+1, flips-1, sum^checks[p]); ok {
			return slices.Insert(rest, 0, p), true
		}
	}
	return nil, false
}

// countCancelled returns how many such lists there are.
func countCancelled(checks []int, first int, flips int, sum int) int {
	if flips == 0 {
		if sum == 0 {
			return 1
		}
		return 0
	}
	count := 0
	for p := first; p < len(checks); p++ {
		count += countCancelled(checks, p+1, flips-1, sum^checks[p])
	}
	return count
}

func hexText(list []int) string {
	var text strings.Builder
	for _, b := range list {
		text.WriteByte(hexDigits[b/16])
		text.WriteByte(hexDigits[b%16])
	}
	return text.String()
}

func parseHex(s string) ([]int, bool) {
	if len(s)%2 != 0 || len(s) > 2*MaxData {
		return nil, false
	}
	list := make([]int, 0, len(s)/2)
	for i := 0; i < len(s); i += 2 {
		great := strings.IndexByte(hexDigits, s[i])
		small := strings.IndexByte(hexDigits, s[i+1])
		if great < 0 || small < 0 {
			return nil, false
		}
		list = append(list, great*16+small)
	}
	return list, true
}
