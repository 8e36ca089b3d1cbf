package impl

import "strings"

// Angles in seconds of arc.
const (
	Turn     = 1296000
	Quarter  = 324000
	MaxAngle = 1000000000
)

const (
	arcDegree = 3600
	arcMinute = 60

	// What the sphere turns in an hour and in a minute of time.
	timeHour   = Turn / 24
	timeMinute = timeHour / 60
)

// Spot is a place on the sphere.
type Spot struct {
	Lat int64
	Lon int64
}

// Fraction is a rational number.
type Fraction struct {
	Num int64
	Den int64
}

// arcParts is the size of an angle in degrees, minutes and seconds.
type arcParts struct {
	degrees int64
	minutes int64
	seconds int64
}

// sides are the letters behind a size: minus for negative angles only.
type sides struct {
	plus  rune
	minus rune
}

// ValidSpot reports whether p is valid.
func ValidSpot(p Spot) bool {
	return isLat(p.Lat) && within(p.Lon, -2*Quarter, 2*Quarter-1)
}

// WrapLon returns the longitude of an angle.
func WrapLon(angle int64) (int64, int64) {
	if !isAngle(angle) {
		return 0, ErrRange
	}
	return wrap(angle), OK
}

// LonDifference returns the shortest turn from one longitude to another one.
func LonDifference(from, to int64) (int64, int64) {
	if !isAngle(from) || !isAngle(to) {
		return 0, ErrRange
	}
	return wrap(to - from), OK
}

// TurnSpot returns a place after the sphere has been turned.
func TurnSpot(p Spot, angle int64) (Spot, int64) {
	if !ValidSpot(p) {
		return Spot{}, ErrInvalid
	}
	if !isAngle(angle) {
		return Spot{}, ErrRange
	}
	return Spot{p.Lat, wrap(p.Lon + angle)}, OK
}

// Antipode returns the place on the other side.
func Antipode(p Spot) (Spot, int64) {
	if !ValidSpot(p) {
		return Spot{}, ErrInvalid
	}
	return Spot{-p.Lat, wrap(p.Lon + 2*Quarter)}, OK
}

// HourText returns an angle as hours of turning.
func HourText(angle int64) string {
	if !within(angle, 0, Turn-1) || angle%timeMinute != 0 {
		return ""
	}
	return Decimal(angle/timeHour) + "h" + twoDigits(angle%timeHour/timeMinute) + "m"
}

// ReadHour returns the angle with hours of turning.
func ReadHour(s string) (int64, bool) {
	hourPart, rest, _ := strings.Cut(s, "h")
	minutePart, _, _ := strings.Cut(rest, "m")
	hours, hoursRead := ReadDecimal(hourPart)
	minutes, minutesRead := readTwoDigits(minutePart)
	if !hoursRead || !minutesRead || !within(hours, 0, Turn/timeHour) {
		return 0, false
	}
	angle := hours*timeHour + minutes*timeMinute
	// The text of this angle is another one if s has too many minutes or anything behind them.
	if HourText(angle) != s {
		return 0, false
	}
	return angle, true
}

// SpotText returns the text form of a place.
func SpotText(p Spot) string {
	if !ValidSpot(p) {
		return ""
	}
	return northSouth().text(p.Lat) + " " + eastWest().text(p.Lon)
}

// ReadSpot returns the place with a text form.
func ReadSpot(s string) (Spot, bool) {
	latPart, lonPart, _ := strings.Cut(s, " ")
	lat, latRead := northSouth().read(latPart)
	lon, lonRead := eastWest().read(lonPart)
	p := Spot{lat, lon}
	if !latRead || !lonRead || !ValidSpot(p) {
		return Spot{}, false
	}
	return p, true
}

func isAngle(n int64) bool {
	return within(n, -MaxAngle, MaxAngle)
}

func isLat(n int64) bool {
	return within(n, -Quarter, Quarter)
}

// wrap is WrapLon without its limits, for sums and differences of angles.
func wrap(angle int64) int64 {
	rest := (angle + 2*Quarter) % Turn
	if rest < 0 {
		rest += Turn
	}
	return rest - 2*Quarter
}

func partsOf(size int64) arcParts {
	return arcParts{size / arcDegree, size % arcDegree / arcMinute, size % arcMinute}
}

func (a arcParts) size() int64 {
	return a.degrees*arcDegree + a.minutes*arcMinute + a.seconds
}

// readParts returns the parts with a text without its letter.
func readParts(s string) (arcParts, bool) {
	degreePart, rest, _ := strings.Cut(s, ".")
	minutePart, secondPart, _ := strings.Cut(rest, ".")
	degrees, degreesRead := ReadDecimal(degreePart)
	minutes, minutesRead := readTwoDigits(minutePart)
	seconds, secondsRead := readTwoDigits(secondPart)
	if !degreesRead || !minutesRead || !secondsRead || !within(degrees, 0, Turn/arcDegree) {
		return arcParts{}, false
	}
	parts := arcParts{degrees, minutes, seconds}
	// A size with 60 minutes or seconds, or more, has other parts.
	if partsOf(parts.size()) != parts {
		return arcParts{}, false
	}
	return parts, true
}

func northSouth() sides { return sides{'n', 's'} }

func eastWest() sides { return sides{'e', 'w'} }

func (x sides) has(r rune) bool { return r == x.plus || r == x.minus }

func (x sides) letterOf(angle int64) string {
	if angle < 0 {
		return string(x.minus)
	}
	return string(x.plus)
}

func (x sides) text(angle int64) string {
	parts := partsOf(max(angle, -angle))
	var b strings.Builder
	b.WriteString(Decimal(parts.degrees))
	b.WriteByte('.')
	b.WriteString(twoDigits(parts.minutes))
	b.WriteByte('.')
	b.WriteString(twoDigits(parts.seconds))
	b.WriteString(x.letterOf(angle))
	return b.String()
}

func (x sides) read(s string) (int64, bool) {
	end := strings.IndexFunc(s, x.has)
	if end < 0 {
		return 0, false
	}
	parts, ok := readParts(s[:end])
	angle := parts.size()
	if s[end:] == string(x.minus) {
		angle = -angle
	}
	// This refuses minus for 0, and whatever stands behind the letter.
	if !ok || s[end:] != x.letterOf(angle) {
		return 0, false
	}
	return angle, true
}
